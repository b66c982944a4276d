/- Drawn code that leaves a boolean or a number. -/
import Derived.Test.YthhmhglgjeaefaaDoorWant
namespace Go.Proofs.YthhmhglgjeaefaaDoor
open Go.ChangeShapes Go.WideShapes Go.ChangeAt Go.RowKit
set_option linter.unusedVariables false
theorem lens2 {z1 z2 : List Ins} {m1 m2 : Nat} (h1 : z1.length = m1) (a1 : 1 ≤ m1) (b1 : m1 ≤ 1000) (h2 : z2.length = m2) (a2 : 1 ≤ m2) (b2 : m2 ≤ 1000) : ∀ j, j < [z1, z2].length → 1 ≤ ([z1, z2].getD j []).length ∧ ([z1, z2].getD j []).length ≤ 1000 := by
  intro j hj
  match j, hj with
  | 0, _ => simp [h1, a1, b1]
  | 1, _ => simp [h2, a2, b2]
theorem lens3 {z1 z2 z3 : List Ins} {m1 m2 m3 : Nat} (h1 : z1.length = m1) (a1 : 1 ≤ m1) (b1 : m1 ≤ 1000) (h2 : z2.length = m2) (a2 : 1 ≤ m2) (b2 : m2 ≤ 1000) (h3 : z3.length = m3) (a3 : 1 ≤ m3) (b3 : m3 ≤ 1000) : ∀ j, j < [z1, z2, z3].length → 1 ≤ ([z1, z2, z3].getD j []).length ∧ ([z1, z2, z3].getD j []).length ≤ 1000 := by
  intro j hj
  match j, hj with
  | 0, _ => simp [h1, a1, b1]
  | 1, _ => simp [h2, a2, b2]
  | 2, _ => simp [h3, a3, b3]
theorem lens4 {z1 z2 z3 z4 : List Ins} {m1 m2 m3 m4 : Nat} (h1 : z1.length = m1) (a1 : 1 ≤ m1) (b1 : m1 ≤ 1000) (h2 : z2.length = m2) (a2 : 1 ≤ m2) (b2 : m2 ≤ 1000) (h3 : z3.length = m3) (a3 : 1 ≤ m3) (b3 : m3 ≤ 1000) (h4 : z4.length = m4) (a4 : 1 ≤ m4) (b4 : m4 ≤ 1000) : ∀ j, j < [z1, z2, z3, z4].length → 1 ≤ ([z1, z2, z3, z4].getD j []).length ∧ ([z1, z2, z3, z4].getD j []).length ≤ 1000 := by
  intro j hj
  match j, hj with
  | 0, _ => simp [h1, a1, b1]
  | 1, _ => simp [h2, a2, b2]
  | 2, _ => simp [h3, a3, b3]
  | 3, _ => simp [h4, a4, b4]
theorem sz_alloc (w : World) (O : Obj) : (w.alloc O).heap.size = w.heap.size + 1 := by simp
theorem pcP_cat {B p N n d L : Nat} {k : Option Addr} {ks : List Int} {r : Int} {q : List UInt8} {w0 w1 w' : World} {e : Ending} {zs : List (List Ins)} (hp : Pc ks r zs.flatten q n d) (h1 : 1 ≤ zs.flatten.length) (hL : zs.flatten.length ≤ L) (hd : DK w1 B p N k ks) (hg : w0.grownBy w1 (some p)) (hc : CatP w1.heap.size zs.flatten w1 e w') :
    PcP B p N k ks r q n d L w0 e w' := by
  obtain ⟨a, m, c, rfl, rfl, ho, hb⟩ := hc
  refine ⟨a, _, c, zs.flatten, rfl, rfl, hp, h1, hL, ⟨lies_own ho, fun b o e => ?_⟩, hd.bel hb, grown_tr hg (grown_bel hb _)⟩
  have := (ho.lt b (by rw [e]; rfl)).1
  have := hd.plt
  omega
theorem wantBool0 (B p N : Nat) (k : Option Addr) (kc : Nat) (ks : List Int) (r : Int) (w : World) (h : DK w B p N k ks) (hN : N ≤ 900000) (hk : ks.length ≤ 8) :
    Calls Tryd.prog 67 #[.pointer (some ⟨p, 0, none⟩), .slice k ks.length kc, .int .i64 0] w (PcP B p (N + 10) k ks r [98] 1 0 1 w) := by
  have HD := Lib.hid h
  have HG := Lib.hid (World.grownBy.refl w (some p))
  clear h
  go_enter Tryd.func67, Tryd.ntmps67
  go_wp2_with fail
  refine (next_dk 4 _ HD.out (by omega) (by omega) (by omega)).mono ?_
  rintro e wa ⟨v, rfl, v0, v1, hD, hg⟩
  have HDa := Lib.hid hD
  have HGa := Lib.hid (grown_tr HG.out hg)
  clear hD hg
  by_cases e0 : v = 0
  · subst e0
    go_wp2_with fail
    refine (next_dk 2 _ HDa.out (by omega) (by omega) (by omega)).mono ?_
    rintro e wb ⟨u, rfl, u0, u1, hD, hg⟩
    have HDb := Lib.hid hD
    have HGb := Lib.hid (grown_tr HGa.out hg)
    clear hD hg
    go_wp2_with fail
    refine (opA_any 2 u _).mono ?_
    rintro e w9 ⟨rfl, rfl⟩
    go_wp2
    go_ret
    exact (pcP_one (pc_flag ⟨u0, by omega⟩) HDb.out HGb.out).more (by omega) (by omega) (by omega) (by omega)
  have hb0 : (v == 0) = false := beq_eq_false_iff_ne.2 e0
  by_cases e1 : v = 1
  · subst e1
    go_wp2_with fail
    refine (next_dk 4 _ HDa.out (by omega) (by omega) (by omega)).mono ?_
    rintro e wb ⟨u, rfl, u0, u1, hD, hg⟩
    have HDb := Lib.hid hD
    have HGb := Lib.hid (grown_tr HGa.out hg)
    clear hD hg
    go_wp2_with fail
    refine (opA_any 7 u _).mono ?_
    rintro e w9 ⟨rfl, rfl⟩
    go_wp2
    go_ret
    exact (pcP_one (pc_peek ⟨u0, by omega⟩) HDb.out HGb.out).more (by omega) (by omega) (by omega) (by omega)
  have hb1 : (v == 1) = false := beq_eq_false_iff_ne.2 e1
  go_wp2_with fail
  refine (next_dk 4 _ HDa.out (by omega) (by omega) (by omega)).mono ?_
  rintro e wb ⟨u, rfl, u0, u1, hD, hg⟩
  have HDb := Lib.hid hD
  have HGb := Lib.hid (grown_tr HGa.out hg)
  clear hD hg
  go_wp2_with fail
  refine (opA_any 5 u _).mono ?_
  rintro e w9 ⟨rfl, rfl⟩
  go_wp2
  go_ret
  exact (pcP_one (pc_in ⟨u0, by omega⟩) HDb.out HGb.out).more (by omega) (by omega) (by omega) (by omega)
theorem wantInt_any : ∀ (d : Nat), d ≤ 2 → ∀ (D : Int), D = d → ∀ (B p N : Nat) (k : Option Addr) (kc : Nat) (ks : List Int) (r : Int) (w : World) (h : DK w B p N k ks) (hN : N + 50 * (d + 1) ≤ 800000) (hk : ks.length ≤ 8),
    Calls Tryd.prog 65 #[.pointer (some ⟨p, 0, none⟩), .slice k ks.length kc, .int .i64 D] w (PcP B p (N + 50 * (d + 1)) k ks r [105] 3 0 (2 * d + 2) w)
  | 0, _, D, hD, B, p, N, k, kc, ks, r, w, h, hN, hk => by
    subst hD
    exact (wantInt0 B p N k kc ks r w h (by omega) hk).mono fun e w' h => h.more (by omega) (by omega) (by omega) (by omega)
  | d + 1, hd, D, hDd, B, p, N, k, kc, ks, r, w, h, hN, hk => by
    have HD := Lib.hid h
    have HG := Lib.hid (World.grownBy.refl w (some p))
    clear h
    have hz : (D == 0) = false := beq_eq_false_iff_ne.2 (by omega)
    have hw : wrap64 (D - 1) = D - 1 := by unfold wrap64; omega
    go_enter Tryd.func65, Tryd.ntmps65
    go_wp2_with fail
    refine (chance_dk 2 _ HD.out (by omega) (by omega) (by omega)).mono ?_
    rintro e w1 ⟨b1, rfl, hD, hg⟩
    have HD1 := Lib.hid hD
    have HG1 := Lib.hid (grown_tr HG.out hg)
    clear hD hg
    cases b1
    rotate_left
    · go_wp2_with fail
      refine (next_dk 4 _ HD1.out (by omega) (by omega) (by omega)).mono ?_
      rintro e wa ⟨v, rfl, v0, v1, hD, hg⟩
      have HDa := Lib.hid hD
      have HGa := Lib.hid (grown_tr HG1.out hg)
      clear hD hg
      by_cases e0 : v = 0
      · subst e0
        go_wp2_with fail
        refine (value_dk _ HDa.out (by omega)).mono ?_
        rintro e wb ⟨u, rfl, u0, u1, hD, hg⟩
        have HDb := Lib.hid hD
        have HGb := Lib.hid (grown_tr HGa.out hg)
        clear hD hg
        go_wp2_with fail
        refine (opA_any 1 u _).mono ?_
        rintro e w9 ⟨rfl, rfl⟩
        go_wp2
        go_ret
        exact (pcP_one (pc_push ⟨u0, u1⟩) HDb.out HGb.out).more (by omega) (by omega) (by omega) (by omega)
      have hb0 : (v == 0) = false := beq_eq_false_iff_ne.2 e0
      by_cases e1 : v = 1
      · subst e1
        by_cases hn : 0 < ks.length
        · go_wp2_with fail
          refine (next_dk ks.length _ HDa.out (by omega) (by omega) (by omega)).mono ?_
          rintro e wb ⟨u, rfl, u0, u1, hD, hg⟩
          have HDb := Lib.hid hD
          have HGb := Lib.hid (grown_tr HGa.out hg)
          clear hD hg
          go_wp2_with fail
          refine (opA_any 20 u _).mono ?_
          rintro e w9 ⟨rfl, rfl⟩
          go_wp2
          go_ret
          exact (pcP_one (pc_value ⟨u0, by omega⟩ hk) HDb.out HGb.out).more (by omega) (by omega) (by omega) (by omega)
        · obtain hn0 : ks.length = 0 := by omega
          go_wp2_with fail
          refine (next_dk 4 _ HDa.out (by omega) (by omega) (by omega)).mono ?_
          rintro e wb ⟨u, rfl, u0, u1, hD, hg⟩
          have HDb := Lib.hid hD
          have HGb := Lib.hid (grown_tr HGa.out hg)
          clear hD hg
          go_wp2_with fail
          refine (opA_any 3 u _).mono ?_
          rintro e w9 ⟨rfl, rfl⟩
          go_wp2
          go_ret
          exact (pcP_one (pc_load ⟨u0, by omega⟩) HDb.out HGb.out).more (by omega) (by omega) (by omega) (by omega)
      have hb1 : (v == 1) = false := beq_eq_false_iff_ne.2 e1
      go_wp2_with fail
      refine (next_dk 4 _ HDa.out (by omega) (by omega) (by omega)).mono ?_
      rintro e wb ⟨u, rfl, u0, u1, hD, hg⟩
      have HDb := Lib.hid hD
      have HGb := Lib.hid (grown_tr HGa.out hg)
      clear hD hg
      go_wp2_with fail
      refine (opA_any 3 u _).mono ?_
      rintro e w9 ⟨rfl, rfl⟩
      go_wp2
      go_ret
      exact (pcP_one (pc_load ⟨u0, by omega⟩) HDb.out HGb.out).more (by omega) (by omega) (by omega) (by omega)
    go_wp2_with fail
    refine (chance_dk 4 _ HD1.out (by omega) (by omega) (by omega)).mono ?_
    rintro e w2 ⟨b2, rfl, hD, hg⟩
    have HD2 := Lib.hid hD
    have HG2 := Lib.hid (grown_tr HG1.out hg)
    clear hD hg
    cases b2
    rotate_left
    · go_wp2_with fail
      refine (wantBool0 B p _ k kc ks r _ HD2.out (by omega) hk).mono ?_
      rintro e w3 ⟨a1, m1, c1, z1, rfl, l1, p1, lo1, hi1, lp, hD, hg⟩
      have HD3 := Lib.hid hD
      have P1 := Lib.hid p1
      have L1 := Lib.hid lp
      have HG3 := Lib.hid (grown_tr HG2.out hg)
      clear p1 lp hD hg
      go_wp2_with fail
      refine (wantInt0 B p _ k kc ks r _ HD3.out (by omega) hk).mono ?_
      rintro e w4 ⟨a2, m2, c2, z2, rfl, l2, p2, lo2, hi2, lp, hD, hg⟩
      have HD4 := Lib.hid hD
      have P2 := Lib.hid p2
      have L2 := Lib.hid lp
      have L1 := Lib.hid (L1.out.grown hg)
      have HG4 := Lib.hid (grown_tr HG3.out hg)
      clear p2 lp hD hg
      go_wp2_with fail
      refine (wantInt0 B p _ k kc ks r _ HD4.out (by omega) hk).mono ?_
      rintro e w5 ⟨a3, m3, c3, z3, rfl, l3, p3, lo3, hi3, lp, hD, hg⟩
      have HD5 := Lib.hid hD
      have P3 := Lib.hid p3
      have L3 := Lib.hid lp
      have L1 := Lib.hid (L1.out.grown hg)
      have L2 := Lib.hid (L2.out.grown hg)
      have HG5 := Lib.hid (grown_tr HG4.out hg)
      clear p3 lp hD hg
      go_wp2_with fail
      refine (op_any 18 _).mono ?_
      rintro e w8 ⟨rfl, rfl⟩
      have L4 := Lib.hid (one_lp HD5.out.plt 18 0)
      have L1 := Lib.hid (L1.out.al (.cells #[.int .i64 18, .int .i64 0] 38))
      have L2 := Lib.hid (L2.out.al (.cells #[.int .i64 18, .int .i64 0] 38))
      have L3 := Lib.hid (L3.out.al (.cells #[.int .i64 18, .int .i64 0] 38))
      go_wp2_with fail
      have hr := routs4 (w5.alloc (.cells #[.int .i64 (18), .int .i64 0] 38)) (c1 := c1) (c2 := c2) (c3 := c3) (c4 := 1) (m4 := 1) 25 l1 l2 l3 rfl L1.out.1 L2.out.1 L3.out.1 L4.out.1
      rw [sz_alloc] at hr
      refine Calls.mono (l04Cat_any [z1, z2, z3, [(18, 0)]] _ _ _ (by simp) (lens4 (m4 := 1) l1 lo1 (by omega) l2 lo2 (by omega) l3 lo3 (by omega) rfl (by omega) (by omega)) hr) ?_
      intro e w7 h7
      obtain ⟨a7, m7, c7, rfl, hm7, ho7, hb7⟩ := h7
      have h7 : Hid (CatP _ _ _ _ w7) := Lib.hid ⟨a7, m7, c7, rfl, hm7, ho7, hb7⟩
      clear hm7 ho7 hb7 hr
      go_wp2
      go_ret
      have hp : Pc ks r [z1, z2, z3, [(18, 0)]].flatten [105] 3 0 := by simpa using pc_sel P1.out P2.out P3.out
      have hlen : [z1, z2, z3, [(18, 0)]].flatten.length =  m1 + m2 + m3 + 1 := by
        simp only [List.flatten_cons, List.flatten_nil, List.append_nil, List.length_append, l1, l2, l3, List.length_cons, List.length_nil] <;> omega
      have hq := pcP_cat (L := 2 * d + 4) hp (by omega) (by omega) (HD5.out.al _ |>.al _) (grown_al (grown_al HG5.out _) _) h7.out
      exact hq.more (by omega) (by omega) (by omega) (by omega)
    go_wp2_with fail
    refine (wantInt_any d (by omega) _ (by omega) B p _ k kc ks r _ HD2.out (by omega) hk).mono ?_
    rintro e w3 ⟨a1, m1, c1, z1, rfl, l1, p1, lo1, hi1, lp, hD, hg⟩
    have HD3 := Lib.hid hD
    have P1 := Lib.hid p1
    have L1 := Lib.hid lp
    have HG3 := Lib.hid (grown_tr HG2.out hg)
    clear p1 lp hD hg
    go_wp2_with fail
    refine (wantInt0 B p _ k kc ks r _ HD3.out (by omega) hk).mono ?_
    rintro e w4 ⟨a2, m2, c2, z2, rfl, l2, p2, lo2, hi2, lp, hD, hg⟩
    have HD4 := Lib.hid hD
    have P2 := Lib.hid p2
    have L2 := Lib.hid lp
    have L1 := Lib.hid (L1.out.grown hg)
    have HG4 := Lib.hid (grown_tr HG3.out hg)
    clear p2 lp hD hg
    go_wp2_with fail
    refine (next_dk 4 _ HD4.out (by omega) (by omega) (by omega)).mono ?_
    rintro e w5 ⟨v, rfl, v0, v1, hD, hg⟩
    have HD5 := Lib.hid hD
    have HG5 := Lib.hid (grown_tr HG4.out hg)
    have L1 := Lib.hid (L1.out.grown hg)
    have L2 := Lib.hid (L2.out.grown hg)
    clear hD hg
    go_wp2_with fail
    refine (op_any (9 + v) _).mono ?_
    rintro e w8 ⟨rfl, rfl⟩
    have L3 := Lib.hid (one_lp HD5.out.plt (9 + v) 0)
    have L1 := Lib.hid (L1.out.al (.cells #[.int .i64 (9 + v), .int .i64 0] 38))
    have L2 := Lib.hid (L2.out.al (.cells #[.int .i64 (9 + v), .int .i64 0] 38))
    go_wp2_with fail
    have hr := routs3 (w5.alloc (.cells #[.int .i64 (9 + v), .int .i64 0] 38)) (c1 := c1) (c2 := c2) (c3 := 1) (m3 := 1) 25 l1 l2 rfl L1.out.1 L2.out.1 L3.out.1
    rw [sz_alloc] at hr
    refine Calls.mono (l04Cat_any [z1, z2, [(9 + v, 0)]] _ _ _ (by simp) (lens3 (m3 := 1) l1 lo1 (by omega) l2 lo2 (by omega) rfl (by omega) (by omega)) hr) ?_
    intro e w7 h7
    obtain ⟨a7, m7, c7, rfl, hm7, ho7, hb7⟩ := h7
    have h7 : Hid (CatP _ _ _ _ w7) := Lib.hid ⟨a7, m7, c7, rfl, hm7, ho7, hb7⟩
    clear hm7 ho7 hb7 hr
    go_wp2
    go_ret
    have hp : Pc ks r [z1, z2, [(9 + v, 0)]].flatten [105] 3 0 := by simpa using pc_arith P1.out P2.out (show 9 + v = 9 ∨ 9 + v = 10 ∨ 9 + v = 11 ∨ 9 + v = 12 by omega)
    have hlen : [z1, z2, [(9 + v, 0)]].flatten.length =  m1 + m2 + 1 := by
      simp only [List.flatten_cons, List.flatten_nil, List.append_nil, List.length_append, l1, l2, List.length_cons, List.length_nil] <;> omega
    have hq := pcP_cat (L := 2 * d + 4) hp (by omega) (by omega) (HD5.out.al _ |>.al _) (grown_al (grown_al HG5.out _) _) h7.out
    exact hq.more (by omega) (by omega) (by omega) (by omega)
end Go.Proofs.YthhmhglgjeaefaaDoor
