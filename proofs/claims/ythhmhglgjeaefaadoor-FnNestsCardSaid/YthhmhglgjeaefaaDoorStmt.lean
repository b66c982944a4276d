/- A drawn statement. -/
import Derived.Test.YthhmhglgjeaefaaDoorWant3
import Derived.Deep.RegionWith
import Derived.Deep.DeepCutAuto
namespace Go.Proofs.YthhmhglgjeaefaaDoor
open Go.ChangeShapes Go.WideShapes Go.ChangeAt Go.RowKit
set_option linter.unusedVariables false
/-- A row of known instructions is made. -/
def RowP (B p N : Nat) (k : Option Addr) (ks : List Int) (zs : List Ins) (w : World) (e : Ending) (w' : World) : Prop :=
  ∃ (a : Option Addr) (m c : Nat), e = .returned (.slice a m c) ∧ zs.length = m ∧ LP w' p a (flat insC zs) ∧ DK w' B p N k ks ∧ w.grownBy w' (some p)
theorem opA_dk {B p N : Nat} {k : Option Addr} {ks : List Int} (x y : Int) (w : World) (h : DK w B p N k ks) : Calls Tryd.prog 66 #[.int .i64 x, .int .i64 y] w (RowP B p N k ks [(x, y)] w) := by
  refine (opA_any x y w).mono ?_
  rintro e w' ⟨rfl, rfl⟩
  exact ⟨_, 1, 1, rfl, rfl, one_lp h.plt x y, h.al _, grown_al (World.grownBy.refl w _) _⟩
theorem op_dk {B p N : Nat} {k : Option Addr} {ks : List Int} (x : Int) (w : World) (h : DK w B p N k ks) : Calls Tryd.prog 68 #[.int .i64 x] w (RowP B p N k ks [(x, 0)] w) := by
  refine (op_any x w).mono ?_
  rintro e w' ⟨rfl, rfl⟩
  exact ⟨_, 1, 1, rfl, rfl, one_lp h.plt x 0, h.al _, grown_al (World.grownBy.refl w _) _⟩
theorem cat_dk {B p N : Nat} {k : Option Addr} {ks : List Int} (ls : List (List Ins)) (a : Option Addr) (c : Nat) (w : World) (h : DK w B p N k ks) (hn : ls.length ≤ 10) (hl : ∀ j, j < ls.length → 1 ≤ (ls.getD j []).length ∧ (ls.getD j []).length ≤ 1000) (hz : Routs w a ls) :
    Calls Tryd.prog 64 #[.slice a ls.length c] w (RowP B p N k ks ls.flatten w) := by
  refine (l04Cat_any ls a c w hn hl hz).mono ?_
  rintro e w' ⟨a', m, c', rfl, hm, ho, hb⟩
  refine ⟨a', m, c', rfl, hm, ⟨lies_own ho, fun b o e => ?_⟩, h.bel hb, grown_bel hb _⟩
  have := (ho.lt b (by rw [e]; rfl)).1
  have := h.plt
  omega
theorem _root_.Go.World.grownBy.trans' {a b c : World} {row : Option Nat} (h : a.grownBy b row) (g : b.grownBy c row) : a.grownBy c row := grown_tr h g
def NS (d : Nat) : Nat := 300 * 3 ^ d
def LS (d : Nat) : Nat := 10 * 3 ^ d
def WS (d : Nat) : Prop := ∀ (D : Int), D = d → ∀ (B p N : Nat) (k : Option Addr) (kc : Nat) (ks : List Int) (r : Int) (w : World) (h : DK w B p N k ks) (hN : N + NS d ≤ 600000) (hk : ks.length ≤ 8) (hkb : ks.all kindB = true) (hr0 : 0 ≤ r) (hr6 : r ≤ 6),
    Calls Tryd.prog 45 #[.pointer (some ⟨p, 0, none⟩), .slice k ks.length kc, .int .i64 r, .int .i64 D] w (PcP B p (N + NS d) k ks r [] 3 d (LS d) w)
/-- A table of three that the call made. -/
def KL (p q : Nat) (w : World) : Prop := w.heap[q]? = some (.cells #[.int .i64 6, .int .i64 6, .int .i64 8] 3 (0, 0)) ∧ p < q
theorem kl_new {w w' : World} {p : Nat} (hg : (w.alloc (.cells #[.int .i64 6, .int .i64 6, .int .i64 8] 3 (0, 0))).grownBy w' (some p)) (h : p < w.heap.size) : KL p w.heap.size w' :=
  ⟨(hg.block w.heap.size (by simp) (by intro e; injection e with e; omega)).trans (heap_alloc_new w _), h⟩
theorem kl_newd {w w' : World} {p : Nat} (hg : (w.alloc (.cells #[.int .i64 6, .int .i64 6, .int .i64 8] 3 (0, 0))).drew.grownBy w' (some p)) (h : p < w.heap.size) : KL p w.heap.size w' :=
  ⟨(hg.block w.heap.size (by show w.heap.size < (w.alloc (.cells #[.int .i64 6, .int .i64 6, .int .i64 8] 3 (0, 0))).heap.size; simp) (by intro e; injection e with e; omega)).trans (heap_alloc_new w _), h⟩
theorem kl_carry {w w' : World} {p q : Nat} (hg : w.grownBy w' (some p)) (h : KL p q w) : KL p q w' := by
  have hq : q < w.heap.size := by
    rcases Nat.lt_or_ge q w.heap.size with h' | h'
    · exact h'
    · have := h.1; rw [Array.getElem?_eq_none h'] at this; cases this
  exact ⟨(hg.block q hq (by intro e; injection e with e; have := h.2; omega)).trans h.1, h.2⟩
def litV (v : Int) : Int := if v = 2 then 8 else 6
theorem lit_at {v : Int} (h0 : 0 ≤ v) (h1 : v ≤ 3 - 1) : (#[Value.int .i64 6, Value.int .i64 6, Value.int .i64 8] : Array Value)[v.toNat]? = some (.int .i64 (litV v)) := by
  have : v = 0 ∨ v = 1 ∨ v = 2 := by omega
  rcases this with rfl | rfl | rfl <;> rfl
theorem lit_op {v : Int} (h0 : 0 ≤ v) (h1 : v ≤ 3 - 1) : litV v = 6 ∨ litV v = 8 := by unfold litV; split <;> simp
theorem lit_new {v : Int} (h0 : 0 ≤ v) (h1 : v ≤ 3 - 1) (w : World) : (w.alloc (.cells #[.int .i64 6, .int .i64 6, .int .i64 8] 3)).cell? ⟨w.heap.size, v.toNat, none⟩ = some (.int .i64 (litV v)) := by
  have : v = 0 ∨ v = 1 ∨ v = 2 := by omega
  rcases this with rfl | rfl | rfl <;> simp [litV]
theorem lit_newd {v : Int} (h0 : 0 ≤ v) (h1 : v ≤ 3 - 1) (w : World) : (w.alloc (.cells #[.int .i64 6, .int .i64 6, .int .i64 8] 3)).drew.cell? ⟨w.heap.size, v.toNat, none⟩ = some (.int .i64 (litV v)) := lit_new h0 h1 w
theorem kl_cell {w : World} {p q : Nat} (h : KL p q w) {v : Int} (h0 : 0 ≤ v) (h1 : v ≤ 3 - 1) : w.cell? ⟨q, v.toNat, none⟩ = some (.int .i64 (litV v)) := by
  have : v = 0 ∨ v = 1 ∨ v = 2 := by omega
  rcases this with rfl | rfl | rfl
  · exact cell_of_row _ _ 0 _ _ _ h.1
  · exact cell_of_row _ _ 1 _ _ _ h.1
  · exact cell_of_row _ _ 2 _ _ _ h.1
theorem wantBool2 {B p N : Nat} {k : Option Addr} (kc : Nat) {ks : List Int} (r : Int) (w : World) (h : DK w B p N k ks) (hN : N ≤ 600000) (hk : ks.length ≤ 8) (hkb : ks.all kindB = true) :
    Calls Tryd.prog 67 #[.pointer (some ⟨p, 0, none⟩), .slice k ks.length kc, .int .i64 2] w (PcP B p (N + 240) k ks r [98] 3 0 6 w) :=
  wantBool_any 2 (by omega) 2 rfl B p N k kc ks r w h (by omega) hk hkb
set_option maxRecDepth 100000 in
set_option maxHeartbeats 16000000 in
theorem statement_step (d : Nat) (hd : d ≤ 2) (IH : Hid (∀ f, f + 1 = d → WS f)) : WS d := by
    intro D hDd B p N k kc ks r w h hN hk hkb hr0 hr6
    have HD2 := Lib.hid h
    have HG2 := Lib.hid (World.grownBy.refl w (some p))
    have HK := Lib.hid hkb
    clear h hkb
    have h01 : d = 0 ∨ d = 1 ∨ d = 2 := by omega
    have hn0 : 300 ≤ NS d ∧ NS d ≤ 2700 := by rcases h01 with rfl | rfl | rfl <;> decide
    have hl0 : 10 ≤ LS d ∧ LS d ≤ 90 := by rcases h01 with rfl | rfl | rfl <;> decide
    clear h01
    have HDd := Lib.hid hDd
    clear hDd
    go_enter Tryd.func45, Tryd.ntmps45
    go_wp2_with fail
    refine Calls.mono (next_dk 9 _ HD2.out (by omega) (by omega) (by omega)) ?_
    rintro e w3 ⟨v, rfl, v0, v1, hD, hg⟩
    have HD3 := Lib.hid hD
    have HG3 := Lib.hid (grown_tr HG2.out hg)
    clear hD hg
    by_cases e0 : v = 0
    · subst e0
      go_wp2_with fail
      refine Calls.mono (wantInt_any 2 (by omega) 2 rfl B p _ k kc ks r _ HD3.out (by omega) hk) ?_
      rintro e w4 ⟨a1, m1, c1, z1, rfl, l1, p1, lo1, hi1, lp, hD, hg⟩
      have P1 := Lib.hid p1
      have L1n := Lib.hid lp
      have HD4 := Lib.hid hD
      have HG4 := Lib.hid (grown_tr HG3.out hg)
      clear hD hg lp p1
      have L1 := L1n
      clear L1n
      go_wp2_with fail
      refine Calls.mono (next_dk 4 _ HD4.out (by omega) (by omega) (by omega)) ?_
      rintro e w5 ⟨u, rfl, u0, u1, hD, hg⟩
      have HD5 := Lib.hid hD
      have L1 := Lib.hid (L1.out.grown hg)
      have HG5 := Lib.hid (grown_tr HG4.out hg)
      clear hD hg
      go_wp2_with fail
      refine Calls.mono (opA_dk 4 u _ HD5.out) ?_
      rintro e w6 ⟨a2, m2, c2, rfl, l2, lp, hD, hg⟩
      have lo2 : 1 ≤ m2 := Nat.le_of_eq l2
      have hi2 : m2 ≤ 1 := Nat.le_of_eq l2.symm
      have L2n := Lib.hid lp
      have HD6 := Lib.hid hD
      have L1 := Lib.hid (L1.out.grown hg)
      have HG6 := Lib.hid (grown_tr HG5.out hg)
      clear hD hg lp
      have L2 := L2n
      clear L2n
      go_wp2_with fail
      have hr := routs2 w6 (c1 := c1) (c2 := c2) 25 l1 l2 L1.out.1 L2.out.1
      refine Calls.mono (cat_dk [z1, [(4, u)]] _ _ _ (HD6.out.al _) (by simp) (lens2 (m1 := m1) (m2 := m2) l1 lo1 (by omega) l2 lo2 (by omega)) hr) ?_
      clear hr
      rintro e w7 ⟨a3, m3, c3, rfl, l3, lp, hD, hg⟩
      have e3 : m3 ≤ m1 + m2 ∧ m1 + m2 ≤ m3 := by
        rw [← l3]
        simp only [List.flatten_cons, List.flatten_nil, List.append_nil, List.length_append]
        rw [l1, l2]
        try omega
      have hg := (grown_bel (bel_al w6 _) (some p)).trans' hg
      have L3n := Lib.hid lp
      have HD7 := Lib.hid hD
      have HG7 := Lib.hid (grown_tr HG6.out hg)
      clear hD hg lp
      have L3 := L3n
      clear L3n
      have lo3 : 1 ≤ m3 := by omega
      go_wp2
      go_ret
      have hp : Pc ks r [z1, [(4, u)]].flatten [] 3 0 := by simpa using pc_store P1.out (show 0 ≤ u ∧ u ≤ 15 by omega)
      exact ⟨a3, m3, c3, [z1, [(4, u)]].flatten, rfl, l3, hp.more (by omega) (by omega), lo3, by omega, L3.out, HD7.out.more (by omega), HG7.out⟩
    have hb0 : (v == 0) = false := beq_eq_false_iff_ne.2 e0
    by_cases e1 : v = 1
    · subst e1
      go_wp2_with fail
      refine Calls.mono (wantInt_any 2 (by omega) 2 rfl B p _ k kc ks r _ HD3.out (by omega) hk) ?_
      rintro e w4 ⟨a1, m1, c1, z1, rfl, l1, p1, lo1, hi1, lp, hD, hg⟩
      have P1 := Lib.hid p1
      have L1n := Lib.hid lp
      have HD4 := Lib.hid hD
      have HG4 := Lib.hid (grown_tr HG3.out hg)
      clear hD hg lp p1
      have L1 := L1n
      clear L1n
      go_wp2_with fail
      refine Calls.mono (next_dk 4 _ HD4.out (by omega) (by omega) (by omega)) ?_
      rintro e w5 ⟨u, rfl, u0, u1, hD, hg⟩
      have HD5 := Lib.hid hD
      have L1 := Lib.hid (L1.out.grown hg)
      have HG5 := Lib.hid (grown_tr HG4.out hg)
      clear hD hg
      go_wp2_with fail
      refine Calls.mono (opA_dk 4 u _ HD5.out) ?_
      rintro e w6 ⟨a2, m2, c2, rfl, l2, lp, hD, hg⟩
      have lo2 : 1 ≤ m2 := Nat.le_of_eq l2
      have hi2 : m2 ≤ 1 := Nat.le_of_eq l2.symm
      have L2n := Lib.hid lp
      have HD6 := Lib.hid hD
      have L1 := Lib.hid (L1.out.grown hg)
      have HG6 := Lib.hid (grown_tr HG5.out hg)
      clear hD hg lp
      have L2 := L2n
      clear L2n
      go_wp2_with fail
      have hr := routs2 w6 (c1 := c1) (c2 := c2) 25 l1 l2 L1.out.1 L2.out.1
      refine Calls.mono (cat_dk [z1, [(4, u)]] _ _ _ (HD6.out.al _) (by simp) (lens2 (m1 := m1) (m2 := m2) l1 lo1 (by omega) l2 lo2 (by omega)) hr) ?_
      clear hr
      rintro e w7 ⟨a3, m3, c3, rfl, l3, lp, hD, hg⟩
      have e3 : m3 ≤ m1 + m2 ∧ m1 + m2 ≤ m3 := by
        rw [← l3]
        simp only [List.flatten_cons, List.flatten_nil, List.append_nil, List.length_append]
        rw [l1, l2]
        try omega
      have hg := (grown_bel (bel_al w6 _) (some p)).trans' hg
      have L3n := Lib.hid lp
      have HD7 := Lib.hid hD
      have HG7 := Lib.hid (grown_tr HG6.out hg)
      clear hD hg lp
      have L3 := L3n
      clear L3n
      have lo3 : 1 ≤ m3 := by omega
      go_wp2
      go_ret
      have hp : Pc ks r [z1, [(4, u)]].flatten [] 3 0 := by simpa using pc_store P1.out (show 0 ≤ u ∧ u ≤ 15 by omega)
      exact ⟨a3, m3, c3, [z1, [(4, u)]].flatten, rfl, l3, hp.more (by omega) (by omega), lo3, by omega, L3.out, HD7.out.more (by omega), HG7.out⟩
    have hb1 : (v == 1) = false := beq_eq_false_iff_ne.2 e1
    by_cases e2 : v = 2 ∨ v = 3
    · go_upto_if 23 with fail
      go_cut [23] (fun s23 wx => s23 = .bool true ∧ w3 = wx)
      case first =>
        rcases e2 with e2 | e2
        · have hq : (v == 2) = true := beq_iff_eq.2 e2
          clear e2 e0 e1
          go_wp2_with fail
          go_meet
          exact ⟨by first | rfl | rw [hq], rfl⟩
        · have hq : (v == 2) = false := beq_eq_false_iff_ne.2 (by omega)
          have hq3 : (v == 3) = true := beq_iff_eq.2 e2
          clear e2 e0 e1
          go_wp2_with fail
          go_meet
          exact ⟨by first | rfl | rw [hq3], rfl⟩
      case rest =>
        obtain ⟨rfl, rfl⟩ := hcut
        clear e2
        go_wp2
        have HP0 := HD3.out.plt
        have hq : DK w3.drew B p (N + 3) k ks := HD3.out.step (HD3.out.src.grown (grown_drew _ none) (by intro e; cases e) (by intro k e; cases e)) (grown_drew _ _)
        have hq2 : ∀ O, DK (w3.alloc O).drew B p (N + 3) k ks := fun O => (HD3.out.al O).step ((HD3.out.al O).src.grown (grown_drew _ none) (by intro e; cases e) (by intro k e; cases e)) (grown_drew _ _)
        have hgq : w.grownBy w3.drew (some p) := grown_tr HG3.out (grown_drew _ _)
        have hgq2 : ∀ O, w.grownBy (w3.alloc O).drew (some p) := fun O => grown_tr (grown_al HG3.out O) (grown_drew _ _)
        have HKB := HK.out
        go_region_with (first
          | (go_at_call 67; (with_reducible refine (wantBool2 kc r _ (by first | assumption | exact hq2 _) (by omega) hk HKB).mono ?_); rintro e wa ⟨a1, m1, c1, z1, rfl, l1, p1, lo1, hi1, L1, hD, hg⟩; have hpl := DK.plt hD; (first | (with_reducible (have hG := grown_tr hgq hg)) | (with_reducible (have hG := grown_tr (hgq2 _) hg))); (first | (with_reducible (have k5 := kl_newd hg HP0)) | skip))
          | (go_at_call 37; (with_reducible refine (next_dk 3 _ (by first | assumption | exact DK.al (by assumption) _) (by omega) (by omega) (by omega)).mono ?_); rintro e wb ⟨v3, rfl, v30, v31, hD, hg⟩; have hpl := DK.plt hD; (first | (with_reducible (have hG := grown_tr hG hg)) | (with_reducible (have hG := grown_tr (grown_al hG _) hg))); (first | (with_reducible (have L1 := LP.grown L1 hg)) | (with_reducible (have L1 := LP.grown (LP.al L1 _) hg))); (first | (with_reducible (have k5 := kl_carry hg k5)) | (with_reducible (have k5 := kl_new hg (by assumption))) | skip); have hx3 := lit_new v30 v31; have hx5 := lit_newd v30 v31; (first | have hc := kl_cell k5 v30 v31 | skip))
          | (go_at_call 37; (with_reducible refine (next_dk 4 _ (by first | assumption | exact DK.al (by assumption) _) (by omega) (by omega) (by omega)).mono ?_); rintro e wc ⟨v4, rfl, v40, v41, hD, hg⟩; have hpl := DK.plt hD; (first | (with_reducible (have hG := grown_tr hG hg)) | (with_reducible (have hG := grown_tr (grown_al hG _) hg))); (first | (with_reducible (have L1 := LP.grown L1 hg)) | (with_reducible (have L1 := LP.grown (LP.al L1 _) hg))); (first | (with_reducible (have k5 := kl_carry hg k5)) | (with_reducible (have k5 := kl_new hg (by assumption))) | skip); (first | have hc := kl_cell k5 v30 v31 | skip))
          | (go_at_call 66; (with_reducible refine (opA_dk _ _ _ (by first | assumption | exact DK.al (by assumption) _)).mono ?_); rintro e wo ⟨a2, m2, c2, rfl, l2, L2, hD, hg⟩; have lo2 : 1 ≤ m2 := Nat.le_of_eq l2; have hi2 : m2 ≤ 1 := Nat.le_of_eq l2.symm; (first | (with_reducible (have hG := grown_tr hG hg)) | (with_reducible (have hG := grown_tr (grown_al hG _) hg))); (first | (with_reducible (have L1 := LP.grown L1 hg)) | (with_reducible (have L1 := LP.grown (LP.al L1 _) hg))))
          | (go_at_call 64; have hr := routs2 wo (c1 := c1) (c2 := c2) (m1 := m1) (m2 := m2) 25 l1 l2 L1.1 L2.1; (refine (cat_dk [z1, [(litV v3, v4)]] _ _ _ (DK.al hD _) (by simp) (lens2 l1 lo1 (by omega) l2 lo2 (by omega)) hr).mono ?_); rintro e w7 ⟨a3, m3, c3, rfl, l3, L3, hD, hg⟩; have hG := grown_tr (grown_al hG _) hg))
        all_goals
          have HDz := Lib.hid hD
          have HGz := Lib.hid hG
          have HLz := Lib.hid L3
          have e3 : m3 ≤ m1 + m2 ∧ m1 + m2 ≤ m3 := by
            rw [← l3]
            simp only [List.flatten_cons, List.flatten_nil, List.append_nil, List.length_append]
            rw [l1, l2]
            omega
          have hp : Pc ks r [z1, [(litV v3, v4)]].flatten [] 3 0 := by simpa using pc_out p1 (lit_op v30 v31) (show 0 ≤ v4 ∧ v4 ≤ 7 by omega)
          have HPz := Lib.hid hp
          clear hD hG L3 L1 L2 hp p1 hg hr
          go_wp2
          go_ret
          exact ⟨a3, m3, c3, _, rfl, l3, HPz.out.more (by omega) (by omega), by omega, by omega, HLz.out, HDz.out.more (by omega), HGz.out⟩
    have e22 : ¬ v = 2 := fun h => e2 (.inl h)
    have e33 : ¬ v = 3 := fun h => e2 (.inr h)
    have hb2 : (v == 2) = false := beq_eq_false_iff_ne.2 e22
    have hb3 : (v == 3) = false := beq_eq_false_iff_ne.2 e33
    clear e2
    by_cases e4 : v = 4
    · subst e4
      go_wp2_with fail
      refine Calls.mono (op_dk 25 _ HD3.out) ?_
      rintro e w4 ⟨a1, m1, c1, rfl, l1, lp, hD, hg⟩
      have lo1 : 1 ≤ m1 := Nat.le_of_eq l1
      have hi1 : m1 ≤ 1 := Nat.le_of_eq l1.symm
      have L1n := Lib.hid lp
      have HD4 := Lib.hid hD
      have HG4 := Lib.hid (grown_tr HG3.out hg)
      clear hD hg lp
      have L1 := L1n
      clear L1n
      go_wp2
      go_ret
      have hp : Pc ks r [(25, 0)] [] 3 0 := by simpa using (pc_cut (kinds := ks) (r := r)).more (by omega) (Nat.le_refl _)
      exact ⟨a1, m1, c1, [(25, 0)], rfl, l1, hp.more (by omega) (by omega), lo1, by omega, L1.out, HD4.out.more (by omega), HG4.out⟩
    have hb4 : (v == 4) = false := beq_eq_false_iff_ne.2 e4
    by_cases e5 : v = 5
    · subst e5
      by_cases hr : 0 < r
      · go_wp2_with fail
        refine Calls.mono (next_dk r _ HD3.out (by omega) (by omega) (by omega)) ?_
        rintro e w4 ⟨u, rfl, u0, u1, hD, hg⟩
        have HD4 := Lib.hid hD
        have HG4 := Lib.hid (grown_tr HG3.out hg)
        clear hD hg
        go_wp2_with fail
        refine Calls.mono (opA_dk 26 u _ HD4.out) ?_
        rintro e w5 ⟨a1, m1, c1, rfl, l1, lp, hD, hg⟩
        have lo1 : 1 ≤ m1 := Nat.le_of_eq l1
        have hi1 : m1 ≤ 1 := Nat.le_of_eq l1.symm
        have L1n := Lib.hid lp
        have HD5 := Lib.hid hD
        have HG5 := Lib.hid (grown_tr HG4.out hg)
        clear hD hg lp
        have L1 := L1n
        clear L1n
        go_wp2
        go_ret
        have hp : Pc ks r [(26, u)] [] 3 0 := by simpa using (pc_call (kinds := ks) (r := r) ⟨u0, by omega⟩ hr6).more (by omega) (Nat.le_refl _)
        exact ⟨a1, m1, c1, [(26, u)], rfl, l1, hp.more (by omega) (by omega), lo1, by omega, L1.out, HD5.out.more (by omega), HG5.out⟩
      · go_wp2_with fail
        refine Calls.mono (opA_dk 3 0 _ HD3.out) ?_
        rintro e w4 ⟨a1, m1, c1, rfl, l1, lp, hD, hg⟩
        have lo1 : 1 ≤ m1 := Nat.le_of_eq l1
        have hi1 : m1 ≤ 1 := Nat.le_of_eq l1.symm
        have L1n := Lib.hid lp
        have HD4 := Lib.hid hD
        have HG4 := Lib.hid (grown_tr HG3.out hg)
        clear hD hg lp
        have L1 := L1n
        clear L1n
        go_wp2_with fail
        refine Calls.mono (opA_dk 1 1 _ HD4.out) ?_
        rintro e w5 ⟨a2, m2, c2, rfl, l2, lp, hD, hg⟩
        have lo2 : 1 ≤ m2 := Nat.le_of_eq l2
        have hi2 : m2 ≤ 1 := Nat.le_of_eq l2.symm
        have L2n := Lib.hid lp
        have HD5 := Lib.hid hD
        have L1 := Lib.hid (L1.out.grown hg)
        have HG5 := Lib.hid (grown_tr HG4.out hg)
        clear hD hg lp
        have L2 := L2n
        clear L2n
        go_wp2_with fail
        refine Calls.mono (op_dk 9 _ HD5.out) ?_
        rintro e w6 ⟨a3, m3, c3, rfl, l3, lp, hD, hg⟩
        have lo3 : 1 ≤ m3 := Nat.le_of_eq l3
        have hi3 : m3 ≤ 1 := Nat.le_of_eq l3.symm
        have L3n := Lib.hid lp
        have HD6 := Lib.hid hD
        have L1 := Lib.hid (L1.out.grown hg)
        have L2 := Lib.hid (L2.out.grown hg)
        have HG6 := Lib.hid (grown_tr HG5.out hg)
        clear hD hg lp
        have L3 := L3n
        clear L3n
        go_wp2_with fail
        refine Calls.mono (opA_dk 4 0 _ HD6.out) ?_
        rintro e w7 ⟨a4, m4, c4, rfl, l4, lp, hD, hg⟩
        have lo4 : 1 ≤ m4 := Nat.le_of_eq l4
        have hi4 : m4 ≤ 1 := Nat.le_of_eq l4.symm
        have L4n := Lib.hid lp
        have HD7 := Lib.hid hD
        have L1 := Lib.hid (L1.out.grown hg)
        have L2 := Lib.hid (L2.out.grown hg)
        have L3 := Lib.hid (L3.out.grown hg)
        have HG7 := Lib.hid (grown_tr HG6.out hg)
        clear hD hg lp
        have L4 := L4n
        clear L4n
        go_wp2_with fail
        have hr := routs4 w7 (c1 := c1) (c2 := c2) (c3 := c3) (c4 := c4) 25 l1 l2 l3 l4 L1.out.1 L2.out.1 L3.out.1 L4.out.1
        refine Calls.mono (cat_dk [[(3, 0)], [(1, 1)], [(9, 0)], [(4, 0)]] _ _ _ (HD7.out.al _) (by simp) (lens4 (m1 := m1) (m2 := m2) (m3 := m3) (m4 := m4) l1 lo1 (by omega) l2 lo2 (by omega) l3 lo3 (by omega) l4 lo4 (by omega)) hr) ?_
        clear hr
        rintro e w8 ⟨a5, m5, c5, rfl, l5, lp, hD, hg⟩
        have e5 : m5 ≤ m1 + m2 + m3 + m4 ∧ m1 + m2 + m3 + m4 ≤ m5 := by
          rw [← l5]
          simp only [List.flatten_cons, List.flatten_nil, List.append_nil, List.length_append]
          rw [l1, l2, l3, l4]
          try omega
        have hg := (grown_bel (bel_al w7 _) (some p)).trans' hg
        have L5n := Lib.hid lp
        have HD8 := Lib.hid hD
        have HG8 := Lib.hid (grown_tr HG7.out hg)
        clear hD hg lp
        have L5 := L5n
        clear L5n
        have lo5 : 1 ≤ m5 := by omega
        go_wp2
        go_ret
        have hp : Pc ks r [[(3, 0)], [(1, 1)], [(9, 0)], [(4, 0)]].flatten [] 3 0 := by simpa using pc_plain (kinds := ks) (r := r)
        exact ⟨a5, m5, c5, [[(3, 0)], [(1, 1)], [(9, 0)], [(4, 0)]].flatten, rfl, l5, hp.more (by omega) (by omega), lo5, by omega, L5.out, HD8.out.more (by omega), HG8.out⟩
    have hb5 : (v == 5) = false := beq_eq_false_iff_ne.2 e5
    by_cases e6 : v = 6
    · subst e6
      by_cases hpos : 0 < D
      · obtain ⟨f, rfl⟩ : ∃ f, d = f + 1 := ⟨d - 1, by have := HDd.out; omega⟩
        have hDf : D = (f : Int) + 1 := by have := HDd.out; omega
        have IH := Lib.hid (IH.out f rfl)
        have hw : wrap64 (D - 1) = D - 1 := by unfold wrap64; omega
        have hns : NS (f + 1) = 3 * NS f := by unfold NS; rw [Nat.pow_succ]; omega
        have hls : LS (f + 1) = 3 * LS f := by unfold LS; rw [Nat.pow_succ]; omega
        have h01 : f = 0 ∨ f = 1 := by omega
        have hnf : 300 ≤ NS f ∧ 10 ≤ LS f := by rcases h01 with rfl | rfl <;> decide
        clear h01
        go_wp2_with fail
        refine Calls.mono (wantBool_any 1 (by omega) 1 rfl B p _ k kc ks r _ HD3.out (by omega) hk HK.out) ?_
        rintro e w4 ⟨a1, m1, c1, z1, rfl, l1, p1, lo1, hi1, lp, hD, hg⟩
        have P1 := Lib.hid p1
        have L1n := Lib.hid lp
        have HD4 := Lib.hid hD
        have HG4 := Lib.hid (grown_tr HG3.out hg)
        clear hD hg lp p1
        have L1 := L1n
        clear L1n
        go_wp2_with fail
        refine Calls.mono (op_dk 21 _ HD4.out) ?_
        rintro e w5 ⟨a2, m2, c2, rfl, l2, lp, hD, hg⟩
        have lo2 : 1 ≤ m2 := Nat.le_of_eq l2
        have hi2 : m2 ≤ 1 := Nat.le_of_eq l2.symm
        have L2n := Lib.hid lp
        have HD5 := Lib.hid hD
        have L1 := Lib.hid (L1.out.grown hg)
        have HG5 := Lib.hid (grown_tr HG4.out hg)
        clear hD hg lp
        have L2 := L2n
        clear L2n
        go_wp2_with fail
        refine Calls.mono (IH.out _ (by omega) B p _ k kc ks r _ HD5.out (by omega) hk HK.out hr0 hr6) ?_
        rintro e w6 ⟨a3, m3, c3, z3, rfl, l3, p3, lo3, hi3, lp, hD, hg⟩
        have P3 := Lib.hid p3
        have L3n := Lib.hid lp
        have HD6 := Lib.hid hD
        have L1 := Lib.hid (L1.out.grown hg)
        have L2 := Lib.hid (L2.out.grown hg)
        have HG6 := Lib.hid (grown_tr HG5.out hg)
        clear hD hg lp p3
        have L3 := L3n
        clear L3n
        go_wp2_with fail
        have hr := routs3 w6 (c1 := c1) (c2 := c2) (c3 := c3) 25 l1 l2 l3 L1.out.1 L2.out.1 L3.out.1
        refine Calls.mono (cat_dk [z1, [(21, 0)], z3] _ _ _ (HD6.out.al _) (by simp) (lens3 (m1 := m1) (m2 := m2) (m3 := m3) l1 lo1 (by omega) l2 lo2 (by omega) l3 lo3 (by omega)) hr) ?_
        clear hr
        rintro e w7 ⟨a4, m4, c4, rfl, l4, lp, hD, hg⟩
        have e4 : m4 ≤ m1 + m2 + m3 ∧ m1 + m2 + m3 ≤ m4 := by
          rw [← l4]
          simp only [List.flatten_cons, List.flatten_nil, List.append_nil, List.length_append]
          rw [l1, l2, l3]
          try omega
        have hg := (grown_bel (bel_al w6 _) (some p)).trans' hg
        have L4n := Lib.hid lp
        have HD7 := Lib.hid hD
        have HG7 := Lib.hid (grown_tr HG6.out hg)
        clear hD hg lp
        have L4 := L4n
        clear L4n
        have lo4 : 1 ≤ m4 := by omega
        obtain ⟨z4, hz4⟩ : ∃ z, [z1, [(21, 0)], z3].flatten = z := ⟨_, rfl⟩
        rw [hz4] at l4 L4
        go_wp2_with fail
        refine Calls.mono (chance_dk 2 _ HD7.out (by omega) (by omega) (by omega)) ?_
        rintro e w8 ⟨b1, rfl, hD, hg⟩
        have HD8 := Lib.hid hD
        have L4 := Lib.hid (L4.out.grown hg)
        have HG8 := Lib.hid (grown_tr HG7.out hg)
        clear hD hg
        cases b1
        · go_wp2_with fail
          refine Calls.mono (op_dk 23 _ HD8.out) ?_
          rintro e w9 ⟨a5, m5, c5, rfl, l5, lp, hD, hg⟩
          have lo5 : 1 ≤ m5 := Nat.le_of_eq l5
          have hi5 : m5 ≤ 1 := Nat.le_of_eq l5.symm
          have L5n := Lib.hid lp
          have HD9 := Lib.hid hD
          have L4 := Lib.hid (L4.out.grown hg)
          have HG9 := Lib.hid (grown_tr HG8.out hg)
          clear hD hg lp
          have L5 := L5n
          clear L5n
          go_wp2_with fail
          have hr := routs2 w9 (c1 := c4) (c2 := c5) 25 l4 l5 L4.out.1 L5.out.1
          refine Calls.mono (cat_dk [z4, [(23, 0)]] _ _ _ (HD9.out.al _) (by simp) (lens2 (m1 := m4) (m2 := m5) l4 lo4 (by omega) l5 lo5 (by omega)) hr) ?_
          clear hr
          rintro e w10 ⟨a6, m6, c6, rfl, l6, lp, hD, hg⟩
          have e6 : m6 ≤ m4 + m5 ∧ m4 + m5 ≤ m6 := by
            rw [← l6]
            simp only [List.flatten_cons, List.flatten_nil, List.append_nil, List.length_append]
            rw [l4, l5]
            try omega
          have hg := (grown_bel (bel_al w9 _) (some p)).trans' hg
          have L6n := Lib.hid lp
          have HD10 := Lib.hid hD
          have HG10 := Lib.hid (grown_tr HG9.out hg)
          clear hD hg lp
          have L6 := L6n
          clear L6n
          have lo6 : 1 ≤ m6 := by omega
          go_wp2
          go_ret
          subst hz4
          have hp : Pc ks r [[z1, [(21, 0)], z3].flatten, [(23, 0)]].flatten [] 3 (f + 1) := by simpa using pc_branch P1.out P3.out
          exact ⟨a6, m6, c6, [[z1, [(21, 0)], z3].flatten, [(23, 0)]].flatten, rfl, l6, hp.more (by omega) (by omega), lo6, by omega, L6.out, HD10.out.more (by omega), HG10.out⟩
        · go_wp2_with fail
          refine Calls.mono (op_dk 22 _ HD8.out) ?_
          rintro e w9 ⟨a5, m5, c5, rfl, l5, lp, hD, hg⟩
          have lo5 : 1 ≤ m5 := Nat.le_of_eq l5
          have hi5 : m5 ≤ 1 := Nat.le_of_eq l5.symm
          have L5n := Lib.hid lp
          have HD9 := Lib.hid hD
          have L4 := Lib.hid (L4.out.grown hg)
          have HG9 := Lib.hid (grown_tr HG8.out hg)
          clear hD hg lp
          have L5 := L5n
          clear L5n
          go_wp2_with fail
          refine Calls.mono (IH.out _ (by omega) B p _ k kc ks r _ HD9.out (by omega) hk HK.out hr0 hr6) ?_
          rintro e w10 ⟨a6, m6, c6, z6, rfl, l6, p6, lo6, hi6, lp, hD, hg⟩
          have P6 := Lib.hid p6
          have L6n := Lib.hid lp
          have HD10 := Lib.hid hD
          have L4 := Lib.hid (L4.out.grown hg)
          have L5 := Lib.hid (L5.out.grown hg)
          have HG10 := Lib.hid (grown_tr HG9.out hg)
          clear hD hg lp p6
          have L6 := L6n
          clear L6n
          go_wp2_with fail
          have hr := routs3 w10 (c1 := c4) (c2 := c5) (c3 := c6) 25 l4 l5 l6 L4.out.1 L5.out.1 L6.out.1
          refine Calls.mono (cat_dk [z4, [(22, 0)], z6] _ _ _ (HD10.out.al _) (by simp) (lens3 (m1 := m4) (m2 := m5) (m3 := m6) l4 lo4 (by omega) l5 lo5 (by omega) l6 lo6 (by omega)) hr) ?_
          clear hr
          rintro e w11 ⟨a7, m7, c7, rfl, l7, lp, hD, hg⟩
          have e7 : m7 ≤ m4 + m5 + m6 ∧ m4 + m5 + m6 ≤ m7 := by
            rw [← l7]
            simp only [List.flatten_cons, List.flatten_nil, List.append_nil, List.length_append]
            rw [l4, l5, l6]
            try omega
          have hg := (grown_bel (bel_al w10 _) (some p)).trans' hg
          have L7n := Lib.hid lp
          have HD11 := Lib.hid hD
          have HG11 := Lib.hid (grown_tr HG10.out hg)
          clear hD hg lp
          have L7 := L7n
          clear L7n
          have lo7 : 1 ≤ m7 := by omega
          obtain ⟨z7, hz7⟩ : ∃ z, [z4, [(22, 0)], z6].flatten = z := ⟨_, rfl⟩
          rw [hz7] at l7 L7
          go_wp2_with fail
          refine Calls.mono (op_dk 23 _ HD11.out) ?_
          rintro e w12 ⟨a8, m8, c8, rfl, l8, lp, hD, hg⟩
          have lo8 : 1 ≤ m8 := Nat.le_of_eq l8
          have hi8 : m8 ≤ 1 := Nat.le_of_eq l8.symm
          have L8n := Lib.hid lp
          have HD12 := Lib.hid hD
          have L7 := Lib.hid (L7.out.grown hg)
          have HG12 := Lib.hid (grown_tr HG11.out hg)
          clear hD hg lp
          have L8 := L8n
          clear L8n
          go_wp2_with fail
          have hr := routs2 w12 (c1 := c7) (c2 := c8) 25 l7 l8 L7.out.1 L8.out.1
          refine Calls.mono (cat_dk [z7, [(23, 0)]] _ _ _ (HD12.out.al _) (by simp) (lens2 (m1 := m7) (m2 := m8) l7 lo7 (by omega) l8 lo8 (by omega)) hr) ?_
          clear hr
          rintro e w13 ⟨a9, m9, c9, rfl, l9, lp, hD, hg⟩
          have e9 : m9 ≤ m7 + m8 ∧ m7 + m8 ≤ m9 := by
            rw [← l9]
            simp only [List.flatten_cons, List.flatten_nil, List.append_nil, List.length_append]
            rw [l7, l8]
            try omega
          have hg := (grown_bel (bel_al w12 _) (some p)).trans' hg
          have L9n := Lib.hid lp
          have HD13 := Lib.hid hD
          have HG13 := Lib.hid (grown_tr HG12.out hg)
          clear hD hg lp
          have L9 := L9n
          clear L9n
          have lo9 : 1 ≤ m9 := by omega
          go_wp2
          go_ret
          subst hz7
          subst hz4
          have hp : Pc ks r [[[z1, [(21, 0)], z3].flatten, [(22, 0)], z6].flatten, [(23, 0)]].flatten [] 3 (f + 1) := by simpa using pc_twoways P1.out P3.out P6.out
          exact ⟨a9, m9, c9, [[[z1, [(21, 0)], z3].flatten, [(22, 0)], z6].flatten, [(23, 0)]].flatten, rfl, l9, hp.more (by omega) (by omega), lo9, by omega, L9.out, HD13.out.more (by omega), HG13.out⟩
      · go_wp2_with fail
        refine Calls.mono (opA_dk 3 0 _ HD3.out) ?_
        rintro e w4 ⟨a1, m1, c1, rfl, l1, lp, hD, hg⟩
        have lo1 : 1 ≤ m1 := Nat.le_of_eq l1
        have hi1 : m1 ≤ 1 := Nat.le_of_eq l1.symm
        have L1n := Lib.hid lp
        have HD4 := Lib.hid hD
        have HG4 := Lib.hid (grown_tr HG3.out hg)
        clear hD hg lp
        have L1 := L1n
        clear L1n
        go_wp2_with fail
        refine Calls.mono (opA_dk 1 1 _ HD4.out) ?_
        rintro e w5 ⟨a2, m2, c2, rfl, l2, lp, hD, hg⟩
        have lo2 : 1 ≤ m2 := Nat.le_of_eq l2
        have hi2 : m2 ≤ 1 := Nat.le_of_eq l2.symm
        have L2n := Lib.hid lp
        have HD5 := Lib.hid hD
        have L1 := Lib.hid (L1.out.grown hg)
        have HG5 := Lib.hid (grown_tr HG4.out hg)
        clear hD hg lp
        have L2 := L2n
        clear L2n
        go_wp2_with fail
        refine Calls.mono (op_dk 9 _ HD5.out) ?_
        rintro e w6 ⟨a3, m3, c3, rfl, l3, lp, hD, hg⟩
        have lo3 : 1 ≤ m3 := Nat.le_of_eq l3
        have hi3 : m3 ≤ 1 := Nat.le_of_eq l3.symm
        have L3n := Lib.hid lp
        have HD6 := Lib.hid hD
        have L1 := Lib.hid (L1.out.grown hg)
        have L2 := Lib.hid (L2.out.grown hg)
        have HG6 := Lib.hid (grown_tr HG5.out hg)
        clear hD hg lp
        have L3 := L3n
        clear L3n
        go_wp2_with fail
        refine Calls.mono (opA_dk 4 0 _ HD6.out) ?_
        rintro e w7 ⟨a4, m4, c4, rfl, l4, lp, hD, hg⟩
        have lo4 : 1 ≤ m4 := Nat.le_of_eq l4
        have hi4 : m4 ≤ 1 := Nat.le_of_eq l4.symm
        have L4n := Lib.hid lp
        have HD7 := Lib.hid hD
        have L1 := Lib.hid (L1.out.grown hg)
        have L2 := Lib.hid (L2.out.grown hg)
        have L3 := Lib.hid (L3.out.grown hg)
        have HG7 := Lib.hid (grown_tr HG6.out hg)
        clear hD hg lp
        have L4 := L4n
        clear L4n
        go_wp2_with fail
        have hr := routs4 w7 (c1 := c1) (c2 := c2) (c3 := c3) (c4 := c4) 25 l1 l2 l3 l4 L1.out.1 L2.out.1 L3.out.1 L4.out.1
        refine Calls.mono (cat_dk [[(3, 0)], [(1, 1)], [(9, 0)], [(4, 0)]] _ _ _ (HD7.out.al _) (by simp) (lens4 (m1 := m1) (m2 := m2) (m3 := m3) (m4 := m4) l1 lo1 (by omega) l2 lo2 (by omega) l3 lo3 (by omega) l4 lo4 (by omega)) hr) ?_
        clear hr
        rintro e w8 ⟨a5, m5, c5, rfl, l5, lp, hD, hg⟩
        have e5 : m5 ≤ m1 + m2 + m3 + m4 ∧ m1 + m2 + m3 + m4 ≤ m5 := by
          rw [← l5]
          simp only [List.flatten_cons, List.flatten_nil, List.append_nil, List.length_append]
          rw [l1, l2, l3, l4]
          try omega
        have hg := (grown_bel (bel_al w7 _) (some p)).trans' hg
        have L5n := Lib.hid lp
        have HD8 := Lib.hid hD
        have HG8 := Lib.hid (grown_tr HG7.out hg)
        clear hD hg lp
        have L5 := L5n
        clear L5n
        have lo5 : 1 ≤ m5 := by omega
        go_wp2
        go_ret
        have hp : Pc ks r [[(3, 0)], [(1, 1)], [(9, 0)], [(4, 0)]].flatten [] 3 0 := by simpa using pc_plain (kinds := ks) (r := r)
        exact ⟨a5, m5, c5, [[(3, 0)], [(1, 1)], [(9, 0)], [(4, 0)]].flatten, rfl, l5, hp.more (by omega) (by omega), lo5, by omega, L5.out, HD8.out.more (by omega), HG8.out⟩
    have hb6 : (v == 6) = false := beq_eq_false_iff_ne.2 e6
    by_cases e7 : v = 7
    · subst e7
      by_cases hpos : 0 < D
      · obtain ⟨f, rfl⟩ : ∃ f, d = f + 1 := ⟨d - 1, by have := HDd.out; omega⟩
        have hDf : D = (f : Int) + 1 := by have := HDd.out; omega
        have IH := Lib.hid (IH.out f rfl)
        have hw : wrap64 (D - 1) = D - 1 := by unfold wrap64; omega
        have hns : NS (f + 1) = 3 * NS f := by unfold NS; rw [Nat.pow_succ]; omega
        have hls : LS (f + 1) = 3 * LS f := by unfold LS; rw [Nat.pow_succ]; omega
        have h01 : f = 0 ∨ f = 1 := by omega
        have hnf : 300 ≤ NS f ∧ 10 ≤ LS f := by rcases h01 with rfl | rfl <;> decide
        clear h01
        go_wp2_with fail
        refine Calls.mono (next_dk 4 _ HD3.out (by omega) (by omega) (by omega)) ?_
        rintro e w4 ⟨u, rfl, u0, u1, hD, hg⟩
        have HD4 := Lib.hid hD
        have HG4 := Lib.hid (grown_tr HG3.out hg)
        clear hD hg
        go_wp2_with fail
        refine Calls.mono (opA_dk 24 (1 + u) _ HD4.out) ?_
        rintro e w5 ⟨a1, m1, c1, rfl, l1, lp, hD, hg⟩
        have lo1 : 1 ≤ m1 := Nat.le_of_eq l1
        have hi1 : m1 ≤ 1 := Nat.le_of_eq l1.symm
        have L1n := Lib.hid lp
        have HD5 := Lib.hid hD
        have HG5 := Lib.hid (grown_tr HG4.out hg)
        clear hD hg lp
        have L1 := L1n
        clear L1n
        go_wp2_with fail
        refine Calls.mono (IH.out _ (by omega) B p _ k kc ks r _ HD5.out (by omega) hk HK.out hr0 hr6) ?_
        rintro e w6 ⟨a2, m2, c2, z2, rfl, l2, p2, lo2, hi2, lp, hD, hg⟩
        have P2 := Lib.hid p2
        have L2n := Lib.hid lp
        have HD6 := Lib.hid hD
        have L1 := Lib.hid (L1.out.grown hg)
        have HG6 := Lib.hid (grown_tr HG5.out hg)
        clear hD hg lp p2
        have L2 := L2n
        clear L2n
        go_wp2_with fail
        refine Calls.mono (op_dk 23 _ HD6.out) ?_
        rintro e w7 ⟨a3, m3, c3, rfl, l3, lp, hD, hg⟩
        have lo3 : 1 ≤ m3 := Nat.le_of_eq l3
        have hi3 : m3 ≤ 1 := Nat.le_of_eq l3.symm
        have L3n := Lib.hid lp
        have HD7 := Lib.hid hD
        have L1 := Lib.hid (L1.out.grown hg)
        have L2 := Lib.hid (L2.out.grown hg)
        have HG7 := Lib.hid (grown_tr HG6.out hg)
        clear hD hg lp
        have L3 := L3n
        clear L3n
        go_wp2_with fail
        have hr := routs3 w7 (c1 := c1) (c2 := c2) (c3 := c3) 25 l1 l2 l3 L1.out.1 L2.out.1 L3.out.1
        refine Calls.mono (cat_dk [[(24, 1 + u)], z2, [(23, 0)]] _ _ _ (HD7.out.al _) (by simp) (lens3 (m1 := m1) (m2 := m2) (m3 := m3) l1 lo1 (by omega) l2 lo2 (by omega) l3 lo3 (by omega)) hr) ?_
        clear hr
        rintro e w8 ⟨a4, m4, c4, rfl, l4, lp, hD, hg⟩
        have e4 : m4 ≤ m1 + m2 + m3 ∧ m1 + m2 + m3 ≤ m4 := by
          rw [← l4]
          simp only [List.flatten_cons, List.flatten_nil, List.append_nil, List.length_append]
          rw [l1, l2, l3]
          try omega
        have hg := (grown_bel (bel_al w7 _) (some p)).trans' hg
        have L4n := Lib.hid lp
        have HD8 := Lib.hid hD
        have HG8 := Lib.hid (grown_tr HG7.out hg)
        clear hD hg lp
        have L4 := L4n
        clear L4n
        have lo4 : 1 ≤ m4 := by omega
        go_wp2
        go_ret
        have hp : Pc ks r [[(24, 1 + u)], z2, [(23, 0)]].flatten [] 3 (f + 1) := by simpa using pc_loop P2.out (show 1 ≤ 1 + u ∧ 1 + u ≤ 20 by omega)
        exact ⟨a4, m4, c4, [[(24, 1 + u)], z2, [(23, 0)]].flatten, rfl, l4, hp.more (by omega) (by omega), lo4, by omega, L4.out, HD8.out.more (by omega), HG8.out⟩
      · go_wp2_with fail
        refine Calls.mono (opA_dk 3 0 _ HD3.out) ?_
        rintro e w4 ⟨a1, m1, c1, rfl, l1, lp, hD, hg⟩
        have lo1 : 1 ≤ m1 := Nat.le_of_eq l1
        have hi1 : m1 ≤ 1 := Nat.le_of_eq l1.symm
        have L1n := Lib.hid lp
        have HD4 := Lib.hid hD
        have HG4 := Lib.hid (grown_tr HG3.out hg)
        clear hD hg lp
        have L1 := L1n
        clear L1n
        go_wp2_with fail
        refine Calls.mono (opA_dk 1 1 _ HD4.out) ?_
        rintro e w5 ⟨a2, m2, c2, rfl, l2, lp, hD, hg⟩
        have lo2 : 1 ≤ m2 := Nat.le_of_eq l2
        have hi2 : m2 ≤ 1 := Nat.le_of_eq l2.symm
        have L2n := Lib.hid lp
        have HD5 := Lib.hid hD
        have L1 := Lib.hid (L1.out.grown hg)
        have HG5 := Lib.hid (grown_tr HG4.out hg)
        clear hD hg lp
        have L2 := L2n
        clear L2n
        go_wp2_with fail
        refine Calls.mono (op_dk 9 _ HD5.out) ?_
        rintro e w6 ⟨a3, m3, c3, rfl, l3, lp, hD, hg⟩
        have lo3 : 1 ≤ m3 := Nat.le_of_eq l3
        have hi3 : m3 ≤ 1 := Nat.le_of_eq l3.symm
        have L3n := Lib.hid lp
        have HD6 := Lib.hid hD
        have L1 := Lib.hid (L1.out.grown hg)
        have L2 := Lib.hid (L2.out.grown hg)
        have HG6 := Lib.hid (grown_tr HG5.out hg)
        clear hD hg lp
        have L3 := L3n
        clear L3n
        go_wp2_with fail
        refine Calls.mono (opA_dk 4 0 _ HD6.out) ?_
        rintro e w7 ⟨a4, m4, c4, rfl, l4, lp, hD, hg⟩
        have lo4 : 1 ≤ m4 := Nat.le_of_eq l4
        have hi4 : m4 ≤ 1 := Nat.le_of_eq l4.symm
        have L4n := Lib.hid lp
        have HD7 := Lib.hid hD
        have L1 := Lib.hid (L1.out.grown hg)
        have L2 := Lib.hid (L2.out.grown hg)
        have L3 := Lib.hid (L3.out.grown hg)
        have HG7 := Lib.hid (grown_tr HG6.out hg)
        clear hD hg lp
        have L4 := L4n
        clear L4n
        go_wp2_with fail
        have hr := routs4 w7 (c1 := c1) (c2 := c2) (c3 := c3) (c4 := c4) 25 l1 l2 l3 l4 L1.out.1 L2.out.1 L3.out.1 L4.out.1
        refine Calls.mono (cat_dk [[(3, 0)], [(1, 1)], [(9, 0)], [(4, 0)]] _ _ _ (HD7.out.al _) (by simp) (lens4 (m1 := m1) (m2 := m2) (m3 := m3) (m4 := m4) l1 lo1 (by omega) l2 lo2 (by omega) l3 lo3 (by omega) l4 lo4 (by omega)) hr) ?_
        clear hr
        rintro e w8 ⟨a5, m5, c5, rfl, l5, lp, hD, hg⟩
        have e5 : m5 ≤ m1 + m2 + m3 + m4 ∧ m1 + m2 + m3 + m4 ≤ m5 := by
          rw [← l5]
          simp only [List.flatten_cons, List.flatten_nil, List.append_nil, List.length_append]
          rw [l1, l2, l3, l4]
          try omega
        have hg := (grown_bel (bel_al w7 _) (some p)).trans' hg
        have L5n := Lib.hid lp
        have HD8 := Lib.hid hD
        have HG8 := Lib.hid (grown_tr HG7.out hg)
        clear hD hg lp
        have L5 := L5n
        clear L5n
        have lo5 : 1 ≤ m5 := by omega
        go_wp2
        go_ret
        have hp : Pc ks r [[(3, 0)], [(1, 1)], [(9, 0)], [(4, 0)]].flatten [] 3 0 := by simpa using pc_plain (kinds := ks) (r := r)
        exact ⟨a5, m5, c5, [[(3, 0)], [(1, 1)], [(9, 0)], [(4, 0)]].flatten, rfl, l5, hp.more (by omega) (by omega), lo5, by omega, L5.out, HD8.out.more (by omega), HG8.out⟩
    have hb7 : (v == 7) = false := beq_eq_false_iff_ne.2 e7
    go_wp2_with fail
    refine Calls.mono (opA_dk 3 0 _ HD3.out) ?_
    rintro e w4 ⟨a1, m1, c1, rfl, l1, lp, hD, hg⟩
    have lo1 : 1 ≤ m1 := Nat.le_of_eq l1
    have hi1 : m1 ≤ 1 := Nat.le_of_eq l1.symm
    have L1n := Lib.hid lp
    have HD4 := Lib.hid hD
    have HG4 := Lib.hid (grown_tr HG3.out hg)
    clear hD hg lp
    have L1 := L1n
    clear L1n
    go_wp2_with fail
    refine Calls.mono (opA_dk 1 1 _ HD4.out) ?_
    rintro e w5 ⟨a2, m2, c2, rfl, l2, lp, hD, hg⟩
    have lo2 : 1 ≤ m2 := Nat.le_of_eq l2
    have hi2 : m2 ≤ 1 := Nat.le_of_eq l2.symm
    have L2n := Lib.hid lp
    have HD5 := Lib.hid hD
    have L1 := Lib.hid (L1.out.grown hg)
    have HG5 := Lib.hid (grown_tr HG4.out hg)
    clear hD hg lp
    have L2 := L2n
    clear L2n
    go_wp2_with fail
    refine Calls.mono (op_dk 9 _ HD5.out) ?_
    rintro e w6 ⟨a3, m3, c3, rfl, l3, lp, hD, hg⟩
    have lo3 : 1 ≤ m3 := Nat.le_of_eq l3
    have hi3 : m3 ≤ 1 := Nat.le_of_eq l3.symm
    have L3n := Lib.hid lp
    have HD6 := Lib.hid hD
    have L1 := Lib.hid (L1.out.grown hg)
    have L2 := Lib.hid (L2.out.grown hg)
    have HG6 := Lib.hid (grown_tr HG5.out hg)
    clear hD hg lp
    have L3 := L3n
    clear L3n
    go_wp2_with fail
    refine Calls.mono (opA_dk 4 0 _ HD6.out) ?_
    rintro e w7 ⟨a4, m4, c4, rfl, l4, lp, hD, hg⟩
    have lo4 : 1 ≤ m4 := Nat.le_of_eq l4
    have hi4 : m4 ≤ 1 := Nat.le_of_eq l4.symm
    have L4n := Lib.hid lp
    have HD7 := Lib.hid hD
    have L1 := Lib.hid (L1.out.grown hg)
    have L2 := Lib.hid (L2.out.grown hg)
    have L3 := Lib.hid (L3.out.grown hg)
    have HG7 := Lib.hid (grown_tr HG6.out hg)
    clear hD hg lp
    have L4 := L4n
    clear L4n
    go_wp2_with fail
    have hr := routs4 w7 (c1 := c1) (c2 := c2) (c3 := c3) (c4 := c4) 25 l1 l2 l3 l4 L1.out.1 L2.out.1 L3.out.1 L4.out.1
    refine Calls.mono (cat_dk [[(3, 0)], [(1, 1)], [(9, 0)], [(4, 0)]] _ _ _ (HD7.out.al _) (by simp) (lens4 (m1 := m1) (m2 := m2) (m3 := m3) (m4 := m4) l1 lo1 (by omega) l2 lo2 (by omega) l3 lo3 (by omega) l4 lo4 (by omega)) hr) ?_
    clear hr
    rintro e w8 ⟨a5, m5, c5, rfl, l5, lp, hD, hg⟩
    have e5 : m5 ≤ m1 + m2 + m3 + m4 ∧ m1 + m2 + m3 + m4 ≤ m5 := by
      rw [← l5]
      simp only [List.flatten_cons, List.flatten_nil, List.append_nil, List.length_append]
      rw [l1, l2, l3, l4]
      try omega
    have hg := (grown_bel (bel_al w7 _) (some p)).trans' hg
    have L5n := Lib.hid lp
    have HD8 := Lib.hid hD
    have HG8 := Lib.hid (grown_tr HG7.out hg)
    clear hD hg lp
    have L5 := L5n
    clear L5n
    have lo5 : 1 ≤ m5 := by omega
    go_wp2
    go_ret
    have hp : Pc ks r [[(3, 0)], [(1, 1)], [(9, 0)], [(4, 0)]].flatten [] 3 0 := by simpa using pc_plain (kinds := ks) (r := r)
    exact ⟨a5, m5, c5, [[(3, 0)], [(1, 1)], [(9, 0)], [(4, 0)]].flatten, rfl, l5, hp.more (by omega) (by omega), lo5, by omega, L5.out, HD8.out.more (by omega), HG8.out⟩
theorem statement_any : ∀ (d : Nat), d ≤ 2 → WS d
  | 0, hd => statement_step 0 hd (Lib.hid (fun f h => by omega))
  | d + 1, hd => statement_step (d + 1) hd (Lib.hid (fun f h => by
    obtain rfl : f = d := by omega
    exact statement_any f (by omega)))
end Go.Proofs.YthhmhglgjeaefaaDoor
