/- Drawn code that leaves a boolean. -/
import Derived.Test.YthhmhglgjeaefaaDoorWant2
namespace Go.Proofs.YthhmhglgjeaefaaDoor
open Go.ChangeShapes Go.WideShapes Go.ChangeAt Go.RowKit
set_option linter.unusedVariables false
theorem tkL_byte (z : Int) (j : Nat) (b : UInt8) (h : (tkL z)[j]? = some b) : b = 98 ∨ b = 105 := by
  have hm := List.mem_of_getElem? h
  unfold tkL at hm
  split at hm
  · simp at hm; omega
  · split at hm
    · simp at hm; omega
    · split at hm
      · simp at hm; exact .inl hm
      · simp at hm; exact .inl hm
theorem kindB_getD {ks : List Int} (h : ks.all kindB = true) {j : Nat} (hj : j < ks.length) : kindB (ks.getD j 0) = true := by
  rw [List.all_eq_true] at h
  exact h _ (by simp [List.getD, hj])
/-- The operands of a block, put together. -/
def TkP (ks : List Int) (r : Int) (t : List UInt8) (j : Nat) (zs : List Ins) : Prop := zs.length = j ∧ Pc ks r zs (t.take j) j 0
theorem tkP_zero (ks : List Int) (r : Int) (t : List UInt8) : TkP ks r t 0 [] := ⟨rfl, Pc.nil ks r⟩
theorem tkP_step {ks : List Int} {r : Int} {t : List UInt8} {j : Nat} {zs : List Ins} {z : Ins} {b : UInt8} (h : TkP ks r t j zs) (hb : t[j]? = some b) (hz : Pc ks r [z] [b] 1 0) : TkP ks r t (j + 1) (zs ++ [z]) := by
  obtain ⟨h1, h2⟩ := h
  have hlt : j < t.length := (List.getElem?_eq_some_iff.1 hb).1
  have ht : (t.take j).length = j := by simp; omega
  have hp := pc_takes (t := t.take j) (h2.more (by omega) (Nat.le_refl _)) hz
  have e : t.take (j + 1) = t.take j ++ [b] := by
    rw [List.take_succ_eq_append_getElem hlt]
    rw [(List.getElem?_eq_some_iff.1 hb).2]
  refine ⟨by simp [h1], ?_⟩
  rw [e]
  exact hp.more (by simp; omega) (Nat.le_refl _)
theorem pcEnd {ks : List Int} {r z : Int} {t : ByteArray} {zs : List Ins} (h : TkP ks r t.data.toList t.size zs) (e : tkL z = t.data.toList) : Pc ks r zs (tkL z) (tkL z).length 0 := by
  have hl : t.data.toList.length = t.size := by simp
  have h2 := h.2
  rw [← hl, List.take_length] at h2
  rw [e]
  exact h2
theorem own_above {w : World} {B p e size n : Nat} {v : Value} {xs : List Value} (ho : w.ownsRow B e size v n xs) (hp : p < B) : v.ownBlock ≠ some p := by
  intro hv
  have := (ho.lt p hv).1
  omega
theorem DK.ks_lt {w : World} {B p N b o : Nat} {ks : List Int} (h : DK w B p N (some ⟨b, o, none⟩) ks) (hn : 0 < ks.length) : b < w.heap.size := by
  obtain ⟨b2, o2, e, hb, _⟩ := h.ks.open (by rw [kC_len]; exact hn)
  simp only [Option.some.injEq, Addr.mk.injEq] at e
  omega
/-- A row of one's own grows: the source and the kinds stay. -/
theorem DK.row {w w' : World} {B p N b o : Nat} {ks : List Int} {row : Option Nat} (h : DK w B p N (some ⟨b, o, none⟩) ks) (g : w.grownBy w' row) (hp : ∀ q, row = some q → p < q) (hb : ∀ q, row = some q → b < q) : DK w' B p N (some ⟨b, o, none⟩) ks :=
  ⟨h.src.grown g (fun e => by have := hp p e.symm; omega) (fun k e => by have := hp k e; have := h.src.1; omega), h.ks.grown g (fun b' o' e q => by
    simp only [Option.some.injEq, Addr.mk.injEq] at e
    have := hb b' q
    omega), h.ne⟩
def WB (d : Nat) : Prop := ∀ (D : Int), D = d → ∀ (B p N : Nat) (k : Option Addr) (kc : Nat) (ks : List Int) (r : Int) (w : World) (h : DK w B p N k ks) (hN : N + 80 * (d + 1) ≤ 700000) (hk : ks.length ≤ 8) (hkb : ks.all kindB = true),
    Calls Tryd.prog 67 #[.pointer (some ⟨p, 0, none⟩), .slice k ks.length kc, .int .i64 D] w (PcP B p (N + 80 * (d + 1)) k ks r [98] 3 0 (2 * d + 2) w)
set_option maxHeartbeats 4000000 in
theorem wantBool_step (d : Nat) (hd : d + 1 ≤ 2) (IH : Hid (WB d)) : WB (d + 1) := by
    intro D hDd B p N k kc ks r w h hN hk hkb
    have HD := Lib.hid h
    have HG := Lib.hid (World.grownBy.refl w (some p))
    have HK := Lib.hid hkb
    obtain ⟨i0, hi, hz0, hz1, hz2⟩ := info_parts (show (Tryd.prog.info? 38).map (fun i => (i.zero, i.size, i.bytes)) = some (some (.agg #[.int .i64 0, .int .i64 0]), 2, 16) by kernel_rfl)
    have HI := Lib.hid (And.intro hi (And.intro hz0 (And.intro hz1 hz2)))
    clear h hkb hi hz0 hz1 hz2
    have hz : (D == 0) = false := beq_eq_false_iff_ne.2 (by omega)
    have hw : wrap64 (D - 1) = D - 1 := by unfold wrap64; omega
    go_enter Tryd.func67, Tryd.ntmps67
    go_wp2_with fail
    refine (chance_dk 2 _ HD.out (by omega) (by omega) (by omega)).mono ?_
    rintro e w1 ⟨b1, rfl, hD, hg⟩
    have HD1 := Lib.hid hD
    have HG1 := Lib.hid (grown_tr HG.out hg)
    clear hD hg
    cases b1
    rotate_left
    · go_wp2_with fail
      refine (next_dk 4 _ HD1.out (by omega) (by omega) (by omega)).mono ?_
      rintro e wa ⟨v, rfl, v0, v1, hD, hg⟩
      have HDa := Lib.hid hD
      have HGa := Lib.hid (grown_tr HG1.out hg)
      clear hD hg
      by_cases e0 : v = 0
      · subst e0
        go_wp2_with fail
        refine (next_dk 2 _ HDa.out (by omega) (by omega) (by omega)).mono ?_
        rintro e wb ⟨u, rfl, u0, u1, hD, hg⟩
        have HDb := Lib.hid hD
        have HGb := Lib.hid (grown_tr HGa.out hg)
        clear hD hg
        go_wp2_with fail
        refine (opA_any 2 u _).mono ?_
        rintro e w9 ⟨rfl, rfl⟩
        go_wp2
        go_ret
        exact (pcP_one (pc_flag ⟨u0, by omega⟩) HDb.out HGb.out).more (by omega) (by omega) (by omega) (by omega)
      have hb0 : (v == 0) = false := beq_eq_false_iff_ne.2 e0
      by_cases e1 : v = 1
      · subst e1
        go_wp2_with fail
        refine (next_dk 4 _ HDa.out (by omega) (by omega) (by omega)).mono ?_
        rintro e wb ⟨u, rfl, u0, u1, hD, hg⟩
        have HDb := Lib.hid hD
        have HGb := Lib.hid (grown_tr HGa.out hg)
        clear hD hg
        go_wp2_with fail
        refine (opA_any 7 u _).mono ?_
        rintro e w9 ⟨rfl, rfl⟩
        go_wp2
        go_ret
        exact (pcP_one (pc_peek ⟨u0, by omega⟩) HDb.out HGb.out).more (by omega) (by omega) (by omega) (by omega)
      have hb1 : (v == 1) = false := beq_eq_false_iff_ne.2 e1
      go_wp2_with fail
      refine (next_dk 4 _ HDa.out (by omega) (by omega) (by omega)).mono ?_
      rintro e wb ⟨u, rfl, u0, u1, hD, hg⟩
      have HDb := Lib.hid hD
      have HGb := Lib.hid (grown_tr HGa.out hg)
      clear hD hg
      go_wp2_with fail
      refine (opA_any 5 u _).mono ?_
      rintro e w9 ⟨rfl, rfl⟩
      go_wp2
      go_ret
      exact (pcP_one (pc_in ⟨u0, by omega⟩) HDb.out HGb.out).more (by omega) (by omega) (by omega) (by omega)
    go_wp2_with fail
    refine (next_dk 4 _ HD1.out (by omega) (by omega) (by omega)).mono ?_
    rintro e w2 ⟨v, rfl, v0, v1, hD, hg⟩
    have HD2 := Lib.hid hD
    have HG2 := Lib.hid (grown_tr HG1.out hg)
    clear hD hg
    by_cases e0 : v = 0
    · subst e0
      go_wp2_with fail
      refine (wantInt0 B p _ k kc ks r _ HD2.out (by omega) hk).mono ?_
      rintro e w3 ⟨a1, m1, c1, z1, rfl, l1, p1, lo1, hi1, lp, hD, hg⟩
      have HD3 := Lib.hid hD
      have P1 := Lib.hid p1
      have L1 := Lib.hid lp
      have HG3 := Lib.hid (grown_tr HG2.out hg)
      clear p1 lp hD hg
      go_wp2_with fail
      refine (wantInt0 B p _ k kc ks r _ HD3.out (by omega) hk).mono ?_
      rintro e w4 ⟨a2, m2, c2, z2, rfl, l2, p2, lo2, hi2, lp, hD, hg⟩
      have HD4 := Lib.hid hD
      have P2 := Lib.hid p2
      have L2 := Lib.hid lp
      have L1 := Lib.hid (L1.out.grown hg)
      have HG4 := Lib.hid (grown_tr HG3.out hg)
      clear p2 lp hD hg
      go_wp2_with fail
      refine (next_dk 2 _ HD4.out (by omega) (by omega) (by omega)).mono ?_
      rintro e w5 ⟨u, rfl, u0, u1, hD, hg⟩
      have HD5 := Lib.hid hD
      have HG5 := Lib.hid (grown_tr HG4.out hg)
      have L1 := Lib.hid (L1.out.grown hg)
      have L2 := Lib.hid (L2.out.grown hg)
      clear hD hg
      go_wp2_with fail
      refine (op_any (13 + u) _).mono ?_
      rintro e w8 ⟨rfl, rfl⟩
      have L3 := Lib.hid (one_lp HD5.out.plt (13 + u) 0)
      have L1 := Lib.hid (L1.out.al (.cells #[.int .i64 (13 + u), .int .i64 0] 38))
      have L2 := Lib.hid (L2.out.al (.cells #[.int .i64 (13 + u), .int .i64 0] 38))
      go_wp2_with fail
      have hr := routs3 (w5.alloc (.cells #[.int .i64 (13 + u), .int .i64 0] 38)) (c1 := c1) (c2 := c2) (c3 := 1) (m3 := 1) 25 l1 l2 rfl L1.out.1 L2.out.1 L3.out.1
      rw [sz_alloc] at hr
      refine Calls.mono (l04Cat_any [z1, z2, [(13 + u, 0)]] _ _ _ (by simp) (lens3 (m3 := 1) l1 lo1 (by omega) l2 lo2 (by omega) rfl (by omega) (by omega)) hr) ?_
      intro e w7 h7
      obtain ⟨a7, m7, c7, rfl, hm7, ho7, hb7⟩ := h7
      have h7 : Hid (CatP _ _ _ _ w7) := Lib.hid ⟨a7, m7, c7, rfl, hm7, ho7, hb7⟩
      clear hm7 ho7 hb7 hr
      go_wp2
      go_ret
      have hp : Pc ks r [z1, z2, [(13 + u, 0)]].flatten [98] 3 0 := by simpa using pc_comp P1.out P2.out (show 13 + u = 13 ∨ 13 + u = 14 by omega)
      have hlen : [z1, z2, [(13 + u, 0)]].flatten.length =  m1 + m2 + 1 := by
        simp only [List.flatten_cons, List.flatten_nil, List.append_nil, List.length_append, l1, l2, List.length_cons, List.length_nil] <;> omega
      have hq := pcP_cat (L := 2 * d + 4) hp (by omega) (by omega) (HD5.out.al _ |>.al _) (grown_al (grown_al HG5.out _) _) h7.out
      exact hq.more (by omega) (by omega) (by omega) (by omega)
    have hb0 : (v == 0) = false := beq_eq_false_iff_ne.2 e0
    by_cases e1 : v = 1
    · subst e1
      go_wp2_with fail
      refine (IH.out _ (by omega) B p _ k kc ks r _ HD2.out (by omega) hk HK.out).mono ?_
      rintro e w3 ⟨a1, m1, c1, z1, rfl, l1, p1, lo1, hi1, lp, hD, hg⟩
      have HD3 := Lib.hid hD
      have P1 := Lib.hid p1
      have L1 := Lib.hid lp
      have HG3 := Lib.hid (grown_tr HG2.out hg)
      clear p1 lp hD hg
      go_wp2_with fail
      refine (op_any 17 _).mono ?_
      rintro e w8 ⟨rfl, rfl⟩
      have L2 := Lib.hid (one_lp HD3.out.plt 17 0)
      have L1 := Lib.hid (L1.out.al (.cells #[.int .i64 17, .int .i64 0] 38))
      go_wp2_with fail
      have hr := routs2 (w3.alloc (.cells #[.int .i64 (17), .int .i64 0] 38)) (c1 := c1) (c2 := 1) (m2 := 1) 25 l1 rfl L1.out.1 L2.out.1
      rw [sz_alloc] at hr
      refine Calls.mono (l04Cat_any [z1, [(17, 0)]] _ _ _ (by simp) (lens2 (m2 := 1) l1 lo1 (by omega) rfl (by omega) (by omega)) hr) ?_
      intro e w7 h7
      obtain ⟨a7, m7, c7, rfl, hm7, ho7, hb7⟩ := h7
      have h7 : Hid (CatP _ _ _ _ w7) := Lib.hid ⟨a7, m7, c7, rfl, hm7, ho7, hb7⟩
      clear hm7 ho7 hb7 hr
      go_wp2
      go_ret
      have hp : Pc ks r [z1, [(17, 0)]].flatten [98] 3 0 := by simpa using pc_not P1.out
      have hlen : [z1, [(17, 0)]].flatten.length =  m1 + 1 := by
        simp only [List.flatten_cons, List.flatten_nil, List.append_nil, List.length_append, l1, List.length_cons, List.length_nil] <;> omega
      have hq := pcP_cat (L := 2 * d + 4) hp (by omega) (by omega) (HD3.out.al _ |>.al _) (grown_al (grown_al HG3.out _) _) h7.out
      exact hq.more (by omega) (by omega) (by omega) (by omega)
    have hb1 : (v == 1) = false := beq_eq_false_iff_ne.2 e1
    by_cases e2 : v = 2
    · subst e2
      by_cases hn : 0 < ks.length
      · go_wp2_with fail
        refine (next_dk ks.length _ HD2.out (by omega) (by omega) (by omega)).mono ?_
        rintro e w3 ⟨x, rfl, x0, x1, hD, hg⟩
        have HD3 := Lib.hid hD
        have HG3 := Lib.hid (grown_tr HG2.out hg)
        clear hD hg
        obtain ⟨y, rfl⟩ : ∃ y : Nat, x = y := ⟨x.toNat, by omega⟩
        have hy : y < ks.length := by omega
        obtain ⟨b, o, rfl, hbl, hcs⟩ := HD3.out.ks.open (by rw [kC_len]; exact hn)
        have hcell := kind_at hcs hy
        have hkz := kindB_getD HK.out hy
        have HE : Hid (tkL (ks.getD y 0) = (takesF (ks.getD y 0)).data.toList) := Lib.hid (takesF_list _ hkz).symm
        have HBl := Lib.hid (fun a (ha : Pc ks r a (tkL (ks.getD y 0)) (tkL (ks.getD y 0)).length 0) => pc_block (r := r) (k := (y : Int)) ⟨by omega, by omega⟩ hk ha)
        clear hcs
        generalize ks.getD y 0 = z at *
        go_wp2_with fail
        refine (tk4 _ hkz _).mono ?_
        rintro e w4 ⟨rfl, hb4⟩
        have HD4 := Lib.hid (HD3.out.bel hb4)
        have HG4 := Lib.hid (grown_tr HG3.out (grown_bel hb4 _))
        clear hb4 hcell hkz
        generalize takesF z = t at *
        have hb4 := HD4.out.ks_lt hn
        have hts : t.size ≤ 3 := by
          have h3 := tkL_len z
          rw [HE.out] at h3
          exact h3
        go_wp2
        go_loopw [9, 10] (fun v i wr => ∃ (j q : Nat) (x : Option Addr) (zs : List Ins), j ≤ t.size ∧ i = .int .i64 j ∧ v = .slice x j q ∧ Hid (TkP ks r t.data.toList j zs) ∧ Hid (wr.ownsRow w4.heap.size 38 2 (.slice x j q) j (flat insC zs)) ∧ Hid (DK wr B p (N + 20 + 3 * j) (some ⟨b, o, none⟩) ks) ∧ Hid (w4.grownBy wr (some p))) (fun _ i _ => t.size - (intOf i).toNat)
        case atStart => exact ⟨0, 0, some ⟨w4.heap.size, 0, none⟩, [], Nat.zero_le _, rfl, rfl, Lib.hid (tkP_zero ks r _), Lib.hid (World.ownsRow_lit w4 #[] 0 (Nat.le_refl _) (Nat.zero_le _) rfl), Lib.hid ((HD4.out.al _).more (by omega)), Lib.hid (World.grownBy_alloc w4 _ _)⟩
        case round =>
          obtain ⟨j, q, x, zs, hj, rfl, rfl, ht, ho, hd, hg⟩ := hrel
          by_cases hlt : j < t.size
          · have hgj : t.data.toList[j]? = some t[j] := by simp [hlt]; rfl
            have HTK := Lib.hid hgj
            have hpp := HD4.out.plt
            rcases tkL_byte z j t[j] (by rw [HE.out]; exact hgj) with hbv | hbv
            · have h98 : ((t[j].toNat : Int) == 98) = true := by rw [hbv]; rfl
              have hst := HTK.out
              rw [hbv] at hst
              go_wp2_with fail
              refine (next_dk 4 _ hd.out (by omega) (by omega) (by omega)).mono ?_
              rintro e w5 ⟨u, rfl, u0, u1, hD, hgn⟩
              have HD5 := Lib.hid hD
              have HG5 := Lib.hid (grown_tr hg.out hgn)
              have Ho5 := Lib.hid (ho.out.kept hgn (Or.inr (own_above ho.out hpp)))
              clear hD hgn
              go_wp2_with fail
              refine (opA_any 5 u _).mono ?_
              rintro e w6 ⟨rfl, rfl⟩
              have hsz := HG5.out.size
              obtain ⟨H1, H2, H3, H4⟩ := HI.out
              go_wp2_with (at_builtin; go_must (refine wpList_append_own _ rfl (.tmp 83) (.tmp 86) _ rfl w4.heap.size 38 i0 _ 2 16 Tryd.underlying25 H1 H2 H3 H4 rfl (by decide) (.slice x j q) j (flat insC zs) rfl (Ho5.out.alloc _) ⟨w5.heap.size, 0, none⟩ 1 1 [.int .i64 5, .int .i64 u] rfl rfl (by simpa using cell_two_nw w5 (.int .i64 5) (.int .i64 u) 38) (by simp [Value.oneCell']) (by unfold maxLen; omega) (by omega) (by simp; omega) ?_); intro v3 w3 g3 g4 _; obtain ⟨a3, c3, hv3⟩ := own_slice g3; subst hv3)
              have Ho6 : Hid (w3.ownsRow w4.heap.size 38 2 (.slice a3 (j + 1) c3) (j + 1) (flat insC (zs ++ [(5, u)]))) := Lib.hid (own_cast g3 rfl (by rw [flat_snoc]; rfl))
              have Ht6 := Lib.hid (tkP_step ht.out hst (pc_in ⟨u0, by omega⟩))
              have HD6 : Hid (DK w3 B p (N + 20 + 3 * (j + 1)) (some ⟨b, o, none⟩) ks) := Lib.hid (((HD5.out.al _).row g4 (fun e he => by have := (Ho5.out.lt e he).1; omega) (fun e he => by have := (Ho5.out.lt e he).1; omega)).more (by omega))
              have HG6 : Hid (w4.grownBy w3 (some p)) := Lib.hid (grown_new (grown_al HG5.out _) g4 (fun q hq => (Ho5.out.lt q hq).1))
              clear g3 g4 hst
              go_roundw
              case rel => exact ⟨j + 1, c3, a3, zs ++ [(5, u)], by omega, by go_num, rfl, Ht6, Ho6, HD6, HG6⟩
              case measure => simp [intOf]; omega
            · have h98 : ((t[j].toNat : Int) == 98) = false := by rw [hbv]; rfl
              have hst := HTK.out
              rw [hbv] at hst
              go_wp2_with fail
              refine (next_dk 12 _ hd.out (by omega) (by omega) (by omega)).mono ?_
              rintro e w5 ⟨u, rfl, u0, u1, hD, hgn⟩
              have HD5 := Lib.hid hD
              have HG5 := Lib.hid (grown_tr hg.out hgn)
              have Ho5 := Lib.hid (ho.out.kept hgn (Or.inr (own_above ho.out hpp)))
              clear hD hgn
              go_wp2_with fail
              refine (opA_any 1 u _).mono ?_
              rintro e w6 ⟨rfl, rfl⟩
              have hsz := HG5.out.size
              obtain ⟨H1, H2, H3, H4⟩ := HI.out
              go_wp2_with (at_builtin; go_must (refine wpList_append_own _ rfl (.tmp 88) (.tmp 91) _ rfl w4.heap.size 38 i0 _ 2 16 Tryd.underlying25 H1 H2 H3 H4 rfl (by decide) (.slice x j q) j (flat insC zs) rfl (Ho5.out.alloc _) ⟨w5.heap.size, 0, none⟩ 1 1 [.int .i64 1, .int .i64 u] rfl rfl (by simpa using cell_two_nw w5 (.int .i64 1) (.int .i64 u) 38) (by simp [Value.oneCell']) (by unfold maxLen; omega) (by omega) (by simp; omega) ?_); intro v3 w3 g3 g4 _; obtain ⟨a3, c3, hv3⟩ := own_slice g3; subst hv3)
              have Ho6 : Hid (w3.ownsRow w4.heap.size 38 2 (.slice a3 (j + 1) c3) (j + 1) (flat insC (zs ++ [(1, u)]))) := Lib.hid (own_cast g3 rfl (by rw [flat_snoc]; rfl))
              have Ht6 := Lib.hid (tkP_step ht.out hst (pc_push (v := u) ⟨by omega, by omega⟩))
              have HD6 : Hid (DK w3 B p (N + 20 + 3 * (j + 1)) (some ⟨b, o, none⟩) ks) := Lib.hid (((HD5.out.al _).row g4 (fun e he => by have := (Ho5.out.lt e he).1; omega) (fun e he => by have := (Ho5.out.lt e he).1; omega)).more (by omega))
              have HG6 : Hid (w4.grownBy w3 (some p)) := Lib.hid (grown_new (grown_al HG5.out _) g4 (fun q hq => (Ho5.out.lt q hq).1))
              clear g3 g4 hst
              go_roundw
              case rel => exact ⟨j + 1, c3, a3, zs ++ [(1, u)], by omega, by go_num, rfl, Ht6, Ho6, HD6, HG6⟩
              case measure => simp [intOf]; omega
          · obtain rfl : j = t.size := by omega
            have hpp := HD4.out.plt
            have hsz := hg.out.size
            obtain ⟨H1, H2, H3, H4⟩ := HI.out
            go_wp2_with (at_builtin; go_must (refine wpList_append_own _ rfl (.tmp 93) (.tmp 96) _ rfl w4.heap.size 38 i0 _ 2 16 Tryd.underlying25 H1 H2 H3 H4 rfl (by decide) (.slice x t.size q) t.size (flat insC zs) rfl (ho.out.alloc _) ⟨wr.heap.size, 0, none⟩ 1 1 [.int .i64 19, .int .i64 y] rfl rfl (by simpa using cell_two_nw wr (.int .i64 19) (.int .i64 y) 38) (by simp [Value.oneCell']) (by unfold maxLen; omega) (by omega) (by simp; omega) ?_); intro v3 w3 g3 g4 _; obtain ⟨a3, c3, hv3⟩ := own_slice g3; subst hv3)
            go_ret
            refine ⟨a3, t.size + 1, c3, zs ++ [(19, (y : Int))], rfl, by rw [List.length_append, ht.out.1]; rfl, HBl.out zs (pcEnd ht.out HE.out), by omega, by omega, ⟨by rw [flat_snoc]; exact lies_own g3, fun b o e => ?_⟩, ?_, ?_⟩
            · have := (g3.lt b (by rw [e]; rfl)).1
              omega
            · exact ((hd.out.al _).row g4 (fun e he => by have := (ho.out.lt e he).1; omega) (fun e he => by have := (ho.out.lt e he).1; omega)).more (by omega)
            · exact grown_tr HG4.out (grown_new (grown_al hg.out _) g4 (fun q hq => (ho.out.lt q hq).1))
      · go_wp2_with fail
        refine (IH.out _ (by omega) B p _ k kc ks r _ HD2.out (by omega) hk HK.out).mono ?_
        rintro e w3 ⟨a1, m1, c1, z1, rfl, l1, p1, lo1, hi1, lp, hD, hg⟩
        have HD3 := Lib.hid hD
        have P1 := Lib.hid p1
        have L1 := Lib.hid lp
        have HG3 := Lib.hid (grown_tr HG2.out hg)
        clear p1 lp hD hg
        go_wp2_with fail
        refine (wantBool0 B p _ k kc ks r _ HD3.out (by omega) hk).mono ?_
        rintro e w4 ⟨a2, m2, c2, z2, rfl, l2, p2, lo2, hi2, lp, hD, hg⟩
        have HD4 := Lib.hid hD
        have P2 := Lib.hid p2
        have L2 := Lib.hid lp
        have L1 := Lib.hid (L1.out.grown hg)
        have HG4 := Lib.hid (grown_tr HG3.out hg)
        clear p2 lp hD hg
        go_wp2_with fail
        refine (next_dk 2 _ HD4.out (by omega) (by omega) (by omega)).mono ?_
        rintro e w5 ⟨u, rfl, u0, u1, hD, hg⟩
        have HD5 := Lib.hid hD
        have HG5 := Lib.hid (grown_tr HG4.out hg)
        have L1 := Lib.hid (L1.out.grown hg)
        have L2 := Lib.hid (L2.out.grown hg)
        clear hD hg
        go_wp2_with fail
        refine (op_any (15 + u) _).mono ?_
        rintro e w8 ⟨rfl, rfl⟩
        have L3 := Lib.hid (one_lp HD5.out.plt (15 + u) 0)
        have L1 := Lib.hid (L1.out.al (.cells #[.int .i64 (15 + u), .int .i64 0] 38))
        have L2 := Lib.hid (L2.out.al (.cells #[.int .i64 (15 + u), .int .i64 0] 38))
        go_wp2_with fail
        have hr := routs3 (w5.alloc (.cells #[.int .i64 (15 + u), .int .i64 0] 38)) (c1 := c1) (c2 := c2) (c3 := 1) (m3 := 1) 25 l1 l2 rfl L1.out.1 L2.out.1 L3.out.1
        rw [sz_alloc] at hr
        refine Calls.mono (l04Cat_any [z1, z2, [(15 + u, 0)]] _ _ _ (by simp) (lens3 (m3 := 1) l1 lo1 (by omega) l2 lo2 (by omega) rfl (by omega) (by omega)) hr) ?_
        intro e w7 h7
        obtain ⟨a7, m7, c7, rfl, hm7, ho7, hb7⟩ := h7
        have h7 : Hid (CatP _ _ _ _ w7) := Lib.hid ⟨a7, m7, c7, rfl, hm7, ho7, hb7⟩
        clear hm7 ho7 hb7 hr
        go_wp2
        go_ret
        have hp : Pc ks r [z1, z2, [(15 + u, 0)]].flatten [98] 3 0 := by simpa using pc_both P1.out P2.out (show 15 + u = 15 ∨ 15 + u = 16 by omega)
        have hlen : [z1, z2, [(15 + u, 0)]].flatten.length =  m1 + m2 + 1 := by
          simp only [List.flatten_cons, List.flatten_nil, List.append_nil, List.length_append, l1, l2, List.length_cons, List.length_nil] <;> omega
        have hq := pcP_cat (L := 2 * d + 4) hp (by omega) (by omega) (HD5.out.al _ |>.al _) (grown_al (grown_al HG5.out _) _) h7.out
        exact hq.more (by omega) (by omega) (by omega) (by omega)
    have hb2 : (v == 2) = false := beq_eq_false_iff_ne.2 e2
    go_wp2_with fail
    refine (IH.out _ (by omega) B p _ k kc ks r _ HD2.out (by omega) hk HK.out).mono ?_
    rintro e w3 ⟨a1, m1, c1, z1, rfl, l1, p1, lo1, hi1, lp, hD, hg⟩
    have HD3 := Lib.hid hD
    have P1 := Lib.hid p1
    have L1 := Lib.hid lp
    have HG3 := Lib.hid (grown_tr HG2.out hg)
    clear p1 lp hD hg
    go_wp2_with fail
    refine (wantBool0 B p _ k kc ks r _ HD3.out (by omega) hk).mono ?_
    rintro e w4 ⟨a2, m2, c2, z2, rfl, l2, p2, lo2, hi2, lp, hD, hg⟩
    have HD4 := Lib.hid hD
    have P2 := Lib.hid p2
    have L2 := Lib.hid lp
    have L1 := Lib.hid (L1.out.grown hg)
    have HG4 := Lib.hid (grown_tr HG3.out hg)
    clear p2 lp hD hg
    go_wp2_with fail
    refine (next_dk 2 _ HD4.out (by omega) (by omega) (by omega)).mono ?_
    rintro e w5 ⟨u, rfl, u0, u1, hD, hg⟩
    have HD5 := Lib.hid hD
    have HG5 := Lib.hid (grown_tr HG4.out hg)
    have L1 := Lib.hid (L1.out.grown hg)
    have L2 := Lib.hid (L2.out.grown hg)
    clear hD hg
    go_wp2_with fail
    refine (op_any (15 + u) _).mono ?_
    rintro e w8 ⟨rfl, rfl⟩
    have L3 := Lib.hid (one_lp HD5.out.plt (15 + u) 0)
    have L1 := Lib.hid (L1.out.al (.cells #[.int .i64 (15 + u), .int .i64 0] 38))
    have L2 := Lib.hid (L2.out.al (.cells #[.int .i64 (15 + u), .int .i64 0] 38))
    go_wp2_with fail
    have hr := routs3 (w5.alloc (.cells #[.int .i64 (15 + u), .int .i64 0] 38)) (c1 := c1) (c2 := c2) (c3 := 1) (m3 := 1) 25 l1 l2 rfl L1.out.1 L2.out.1 L3.out.1
    rw [sz_alloc] at hr
    refine Calls.mono (l04Cat_any [z1, z2, [(15 + u, 0)]] _ _ _ (by simp) (lens3 (m3 := 1) l1 lo1 (by omega) l2 lo2 (by omega) rfl (by omega) (by omega)) hr) ?_
    intro e w7 h7
    obtain ⟨a7, m7, c7, rfl, hm7, ho7, hb7⟩ := h7
    have h7 : Hid (CatP _ _ _ _ w7) := Lib.hid ⟨a7, m7, c7, rfl, hm7, ho7, hb7⟩
    clear hm7 ho7 hb7 hr
    go_wp2
    go_ret
    have hp : Pc ks r [z1, z2, [(15 + u, 0)]].flatten [98] 3 0 := by simpa using pc_both P1.out P2.out (show 15 + u = 15 ∨ 15 + u = 16 by omega)
    have hlen : [z1, z2, [(15 + u, 0)]].flatten.length =  m1 + m2 + 1 := by
      simp only [List.flatten_cons, List.flatten_nil, List.append_nil, List.length_append, l1, l2, List.length_cons, List.length_nil] <;> omega
    have hq := pcP_cat (L := 2 * d + 4) hp (by omega) (by omega) (HD5.out.al _ |>.al _) (grown_al (grown_al HG5.out _) _) h7.out
    exact hq.more (by omega) (by omega) (by omega) (by omega)
theorem wantBool_any : ∀ (d : Nat), d ≤ 2 → WB d
  | 0, _ => by
    intro D hD B p N k kc ks r w h hN hk hkb
    subst hD
    exact (wantBool0 B p N k kc ks r w h (by omega) hk).mono fun e w' h => h.more (by omega) (by omega) (by omega) (by omega)
  | d + 1, hd => wantBool_step d hd (Lib.hid (wantBool_any d (by omega)))
end Go.Proofs.YthhmhglgjeaefaaDoor
