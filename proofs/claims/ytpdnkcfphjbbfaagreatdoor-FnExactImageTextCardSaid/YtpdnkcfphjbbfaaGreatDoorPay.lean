/- The payload of an image, by impl. (Written by tools/gen_pay.py.) -/
import Derived.Test.YtpdnkcfphjbbfaaGreatDoorImgT
import Derived.Test.YtpdnkcfphjbbfaaGreatDoorCodeI
namespace Go.Proofs.YtpdnkcfphjbbfaaGreatDoor
open Go.ChangeShapes Go.WideShapes Go.ChangeAt Go.RowKit Go.PlainAid
set_option linter.unusedVariables false
theorem put1_cells {n : Int} (h0 : 0 ≤ n) (h : n ≤ 255) : u8s (putTo n 1) = [.int .u8 n] := by
  show [Value.int .u8 ((bytN n 0).toNat : Int)] = _
  rw [bytN_nat]
  simp
  omega
theorem cells_new (w : World) (xs : List Value) (t : TypeId) : ∀ (j : Nat) u, xs[j]? = some u → (w.alloc (.cells xs.toArray t)).cell? ((⟨w.heap.size, 0, none⟩ : Addr).add j) = some u := by
  intro j u hj
  have h := cell_of_row (w.alloc (.cells xs.toArray t)) w.heap.size j xs.toArray t (0, 0) (heap_alloc_new w _)
  have e : (⟨w.heap.size, 0, none⟩ : Addr).add j = ⟨w.heap.size, j, none⟩ := by
    unfold Addr.add
    split
    · rename_i h0; rw [h0]
    · simp
  rw [e, h]
  simpa using hj
theorem lit_at {X : World} {g : Nat} (hg : X.heap.size = g) (xs : List Value) (t : TypeId) : ∀ (j : Nat) u, xs[j]? = some u → (X.alloc (.cells xs.toArray t)).cell? ((⟨g, 0, none⟩ : Addr).add j) = some u := by
  subst hg
  exact cells_new X xs t
theorem u8_info : ∃ i0 : TypeInfo, Tryz.prog.info? 5 = some i0 ∧ i0.zero = some (.int .u8 0) ∧ i0.size = 1 ∧ i0.bytes = 1 := by
  obtain ⟨i0, hi, hz0, hz1, hz2⟩ := info_parts (show (Tryz.prog.info? 5).map (fun i => (i.zero, i.size, i.bytes)) = some (some (.int .u8 0), 1, 1) by kernel_rfl)
  exact ⟨i0, hi, hz0, hz1, hz2⟩
theorem keepB_alloc (w : World) (O : Obj) : KeepB w (w.alloc O) := keepB_bel (dbox w O)
theorem oaB {X : World} {B size n : Nat} {e : TypeId} {v : Value} {xs : List Value} (h : X.ownsRow B e size v n xs) (O : Obj) : (X.alloc O).ownsRow B e size v n xs := own_bel h (dbox X O)
theorem six_cells {w : World} {b : Nat} {v0 v1 v2 v3 v4 v5 : Value} {t : TypeId} (h : w.heap[b]? = some (.cells #[v0, v1, v2, v3, v4, v5] t)) : w.cell? ⟨b, 0, none⟩ = some v0 ∧ w.cell? ⟨b, 1, none⟩ = some v1 ∧ w.cell? ⟨b, 2, none⟩ = some v2 ∧ w.cell? ⟨b, 3, none⟩ = some v3 ∧ w.cell? ⟨b, 4, none⟩ = some v4 ∧ w.cell? ⟨b, 5, none⟩ = some v5 :=
  ⟨cell_of_row w b 0 _ _ _ h, cell_of_row w b 1 _ _ _ h, cell_of_row w b 2 _ _ _ h, cell_of_row w b 3 _ _ _ h, cell_of_row w b 4 _ _ _ h, cell_of_row w b 5 _ _ _ h⟩
set_option maxRecDepth 100000 in
set_option maxHeartbeats 1000000 in
theorem appendTask_any (W0 w : World) (aR bE : Addr) (z : TT) (hz : tkB z = true) (v : Value) (l : List UInt8) (hl : l.length ≤ 100000)
    (hS : Sent W0 aR bE) (hb : Below W0.heap.size W0 w) (ho : w.ownsRow W0.heap.size 5 1 v l.length (u8s l)) :
    Calls Tryz.prog 81 #[v, tV z] w (AppPostK W0 w (l ++ taL z)) := by
  obtain ⟨i0, hi⟩ := u8_info
  have HI := Lib.hid hi
  clear hi
  obtain ⟨H1, H2, H3, H4⟩ := HI.out
  obtain ⟨f1, f2, f3, f4, f5, f6⟩ := tk_fits hz
  have F2 := Lib.hid f2
  have F3 := Lib.hid f3
  have hrng := of_decide_eq_true hz
  have HS := Lib.hid hS
  have Ha := Lib.hid (hb.alloc hb.size (tO z 90))
  have Oa := Lib.hid (oaB ho (tO z 90))
  have Ka := Lib.hid (keepB_alloc w (tO z 90))
  have Xa := Lib.hid (heap_alloc_new w (tO z 90))
  have hwB : W0.heap.size ≤ w.heap.size := hb.size
  have HTL : Hid (l ++ taL z = (((l ++ putTo z.k 1) ++ putTo z.p 4) ++ putTo z.d 4) ++ (putTo z.i 1 ++ (putTo z.q 1 ++ putTo z.r 1))) := Lib.hid (by unfold taL; simp)
  have C1 := Lib.hid (put1_cells (n := z.k) (by omega) (by omega))
  have C4 := Lib.hid (put1_cells (n := z.i) (by omega) (by omega))
  have C5 := Lib.hid (put1_cells (n := z.q) (by omega) (by omega))
  have C6 := Lib.hid (put1_cells (n := z.r) (by omega) (by omega))
  have hk : 0 ≤ z.k ∧ z.k ≤ 255 := by omega
  have hi : 0 ≤ z.i ∧ z.i ≤ 255 := by omega
  have hq : 0 ≤ z.q ∧ z.q ≤ 255 := by omega
  have hr : 0 ≤ z.r ∧ z.r ≤ 255 := by omega
  obtain ⟨k0, k1⟩ := hk
  obtain ⟨i1, i2⟩ := hi
  obtain ⟨q1, q2⟩ := hq
  obtain ⟨r1, r2⟩ := hr
  clear hS hb ho hz f1 f2 f3 f4 f5 f6 hrng
  generalize hn : l.length = n at *
  have Hn := Lib.hid hn
  clear hn
  go_enter Tryz.func81, Tryz.ntmps81
  go_wp2_with (at_builtin; go_must (refine wpList_append_own _ rfl (.tmp 5) (.tmp 9) _ rfl W0.heap.size 5 i0 _ 1 1 Tryz.underlying42 H1 H2 H3 H4 rfl (by decide) _ n _ rfl (oaB Oa.out _) ⟨w.heap.size + 1, 0, none⟩ 1 1 [.int .u8 z.k] rfl rfl (lit_at (X := w.alloc (tO z 90)) (by simp) [.int .u8 z.k] 5) (by simp [Value.oneCell']) (by unfold maxLen; omega) (by omega) (by simp; omega) ?_); intro v1 w1 g1 g2 _; have K1 := Lib.hid ((Ka.out.trans (keepB_alloc _ _)).trans (keepB_grown (oaB Oa.out _) g2)); have Y1 := Lib.hid (((keepB_alloc _ _).trans (keepB_grown (oaB Oa.out _) g2)) _ _ _ (by decide) Xa.out); have B1 : Hid (Below W0.heap.size W0 w1) := Lib.hid ((Ha.out.alloc (Nat.le_trans hwB (dbox _ _).size) _).grown g2 (Nat.le_trans hwB (Nat.le_trans (dbox _ _).size (dbox _ _).size)) (fun q hq => (Oa.out.lt q hq).1)); have O1 := Lib.hid g1; clear g1 g2; obtain ⟨x0, d1, x2, x3, x4, x5⟩ := six_cells Y1.out)
  refine (appendNumber_k W0 _ aR bE z.p 4 F2.out v1 (l ++ putTo z.k 1) (by rw [List.length_append, Hn.out, putTo_len]; omega) HS.out B1.out (own_cast O1.out (by rw [List.length_append, Hn.out, putTo_len]) (by rw [← C1.out]; simp [u8s]))).mono ?_
  rintro e w2 ⟨v2, rfl, ho2, hb2, hk2⟩
  have Y2 := Lib.hid (hk2 _ _ _ (by decide) Y1.out)
  have K2 := Lib.hid (K1.out.trans hk2)
  have B2 := Lib.hid hb2
  have O2 := Lib.hid ho2
  clear ho2 hb2 hk2 d1 x0 x2 x3 x4 x5
  obtain ⟨_, _, d2, _, _, _⟩ := six_cells Y2.out
  go_wp2_with fail
  refine (appendNumber_k W0 _ aR bE z.d 4 F3.out v2 ((l ++ putTo z.k 1) ++ putTo z.p (4 : Int).toNat) (by simp only [List.length_append, Hn.out, putTo_len]; omega) HS.out B2.out O2.out).mono ?_
  rintro e w3 ⟨v3, rfl, ho3, hb3, hk3⟩
  have Y3 := Lib.hid (hk3 _ _ _ (by decide) Y2.out)
  have K3 := Lib.hid (K2.out.trans hk3)
  have B3 := Lib.hid hb3
  have O3 : Hid (w3.ownsRow W0.heap.size 5 1 v3 (n + 9) (u8s (((l ++ putTo z.k 1) ++ putTo z.p 4) ++ putTo z.d 4))) := Lib.hid (own_cast ho3 (by simp only [List.length_append, Hn.out, putTo_len]; omega) rfl)
  clear ho3 hb3 hk3 d2
  obtain ⟨_, _, _, d3, d4, d5⟩ := six_cells Y3.out
  have hw3 : W0.heap.size ≤ w3.heap.size := B3.out.size
  go_wp2_with (at_builtin; go_must (refine wpList_append_own _ rfl (.tmp 19) (.tmp 29) _ rfl W0.heap.size 5 i0 _ 1 1 Tryz.underlying42 H1 H2 H3 H4 rfl (by decide) _ (n + 9) _ rfl (oaB O3.out _) ⟨w3.heap.size, 0, none⟩ 3 3 [.int .u8 z.i, .int .u8 z.q, .int .u8 z.r] rfl rfl (lit_at (X := w3) (by simp) [.int .u8 z.i, .int .u8 z.q, .int .u8 z.r] 5) (by simp [Value.oneCell']) (by unfold maxLen; omega) (by omega) (by simp; omega) ?_); intro v4 w4 g1 g2 _; have K4 := Lib.hid ((K3.out.trans (keepB_alloc _ _)).trans (keepB_grown (oaB O3.out _) g2)); have B4 : Hid (Below W0.heap.size W0 w4) := Lib.hid ((B3.out.alloc hw3 _).grown g2 (Nat.le_trans hw3 (dbox _ _).size) (fun q hq => (O3.out.lt q hq).1)); have O4 := Lib.hid g1; clear g1 g2)
  go_ret
  exact ⟨v4, rfl, own_cast O4.out (by rw [HTL.out]; simp only [List.length_append, Hn.out, putTo_len]) (by rw [HTL.out]; simp only [u8s, List.map_append] at C4 C5 C6 ⊢; rw [C4.out, C5.out, C6.out]; simp), B4.out, K4.out⟩
theorem bits_take : ∀ (l : List Bool) (j : Nat), j < l.length → bitsN (l.take (j + 1)) = bitsN (l.take j) + 2 ^ j * (if l.getD j false then 1 else 0)
  | [], j, h => by simp at h
  | b :: t, 0, _ => by cases b <;> simp [bitsN]
  | b :: t, j + 1, h => by
    have ih := bits_take t j (by simpa using h)
    have e1 : (b :: t).take (j + 1 + 1) = b :: t.take (j + 1) := rfl
    have e2 : (b :: t).take (j + 1) = b :: t.take j := rfl
    have e3 : (b :: t).getD (j + 1) false = t.getD j false := by simp [List.getD]
    rw [e1, e2, e3, bitsN, bitsN, ih, Nat.pow_succ]
    cases t.getD j false <;> simp <;> omega
theorem or_step {B : Nat} {z : Int} {k : Nat} (hk : k ≤ 7) (hB : B < 2 ^ k) (hz : z = 0 ∨ z = 1) : bits BinOp.or IntKind.i64 (B : Int) (wrap64 (z * 2 ^ k)) = (B : Int) + z * 2 ^ k := by
  have h1 : (2 : Int) ^ k ≤ 128 := by
    obtain rfl | rfl | rfl | rfl | rfl | rfl | rfl | rfl : k = 0 ∨ k = 1 ∨ k = 2 ∨ k = 3 ∨ k = 4 ∨ k = 5 ∨ k = 6 ∨ k = 7 := by omega
    all_goals decide
  have h0 : (0 : Int) ≤ 2 ^ k := by
    obtain rfl | rfl | rfl | rfl | rfl | rfl | rfl | rfl : k = 0 ∨ k = 1 ∨ k = 2 ∨ k = 3 ∨ k = 4 ∨ k = 5 ∨ k = 6 ∨ k = 7 := by omega
    all_goals decide
  have hBi : (B : Int) < 2 ^ k := by exact_mod_cast hB
  have hw : wrap64 (z * 2 ^ k) = z * 2 ^ k := by
    rcases hz with rfl | rfl
    · rw [Int.zero_mul]; first | decide | (unfold wrap64; omega)
    · rw [Int.one_mul]; unfold wrap64; omega
  rw [hw]
  have hz0 : 0 ≤ z := by rcases hz with rfl | rfl <;> decide
  have hzm : z * 2 ^ k ≤ 2 ^ k := by
    rcases hz with rfl | rfl
    · rw [Int.zero_mul]; exact h0
    · rw [Int.one_mul]; exact Int.le_refl _
  exact i64_or_join (B : Int) z (2 ^ k) k rfl (by omega) hBi hz0 (by omega)
theorem bit8_any (b : Bool) (w : World) : Calls Tryz.prog 129 #[.bool b] w fun e w' => e = .returned (.int .i64 (bitZ b)) ∧ w = w' := by
  cases b
  all_goals
    go_enter Tryz.func129, Tryz.ntmps129
    go_wp2
    go_ret
    exact ⟨rfl, rfl⟩
theorem bitsOf_any (sa : List Bool) (a : Option Addr) (c : Nat) (hn : sa.length ≤ 8) (w : World) (hz : Lies w a (flat bI sa)) :
    Calls Tryz.prog 82 #[.slice a sa.length c] w fun e w' => e = .returned (.int .i64 (bitsN sa : Nat)) ∧ w = w' := by
  have Hz := Lib.hid hz
  have HS := Lib.hid (fun k (h : k < sa.length) => bits_take sa k h)
  have HB := Lib.hid (fun k => bitsN_lt (sa.take k))
  have HD : Hid (bitsN (sa.take sa.length) = bitsN sa) := Lib.hid (by rw [List.take_length])
  clear hz
  generalize hL : sa.length = n at *
  have HL := Lib.hid hL
  clear hL
  go_enter Tryz.func82, Tryz.ntmps82
  go_wp2
  go_loop [3, 8] (fun v i => ∃ k : Nat, k ≤ n ∧ i = .int .i64 k ∧ v = .int .i64 (bitsN (sa.take k) : Nat)) (fun _ i => n - (intOf i).toNat)
  case atStart => exact ⟨0, Nat.zero_le _, rfl, rfl⟩
  case round =>
    obtain ⟨k, hk, rfl, rfl⟩ := hrel
    by_cases hlt : k < n
    · obtain ⟨b, o, rfl, hbl, hcs⟩ := Hz.out.open (by rw [bC_len, HL.out]; omega)
      have d0 := bool_at hcs (i := k) (by rw [HL.out]; omega)
      have hst := HS.out k hlt
      have hb1 := HB.out k
      rw [List.length_take, Nat.min_eq_left (by rw [HL.out]; omega)] at hb1
      clear hcs
      generalize bitsN (sa.take k) = B at *
      generalize sa.getD k false = bb at *
      have HST := Lib.hid hst
      have HB1 := Lib.hid hb1
      clear hst hb1
      have HC := Lib.hid (fun w => bit8_any bb w)
      go_wp2_with fail
      refine Calls.mono (HC.out _) ?_
      rintro e w1 ⟨rfl, rfl⟩
      have hor := or_step (k := k) (z := bitZ bb) (by omega) HB1.out (by unfold bitZ; cases bb <;> simp)
      have HOR : Hid (bits BinOp.or IntKind.i64 (B : Int) (wrap64 (bitZ bb * 2 ^ k)) = ((bitsN (sa.take (k + 1)) : Nat) : Int)) := Lib.hid (by
        rw [hor, HST.out]
        cases bb <;> simp [bitZ])
      clear hor
      go_wp2
      go_round
      case rel => exact ⟨k + 1, by omega, by go_num, by rw [HOR.out]⟩
      case measure => simp [intOf]; omega
    · obtain rfl : k = n := by omega
      go_wp2
      go_ret
      exact ⟨by rw [HD.out]; rfl, rfl⟩
theorem byt0 {n : Nat} (h : n ≤ 255) : putTo (n : Int) 1 = [UInt8.ofNat n] := by
  show [bytN (n : Int) 0] = _
  have e : ((n : Int) / 2 ^ (8 * 0) % 256).toNat = n := by
    rw [show (2 : Int) ^ (8 * 0) = 1 by decide, Int.ediv_one]
    omega
  unfold bytN
  rw [e]
/-- While the payload is built: what was there, the argument's box, the bytes so far. -/
structure PSt (w : World) (O : Obj) (wr : World) (v : Value) (l : List UInt8) : Prop where
  bx : Bx w O wr
  own : wr.ownsRow w.heap.size 5 1 v l.length (u8s l)
theorem PSt.to {w wr w' : World} {O : Obj} {v : Value} {l : List UInt8} (h : PSt w O wr v l) (hb : Below wr.heap.size wr w') : PSt w O w' v l := ⟨h.bx.to hb, own_bel h.own hb⟩
theorem PSt.k {w wr w' : World} {cs : Array Value} {t : TypeId} {v v' : Value} {l l' : List UInt8} (h : PSt w (.cells cs t) wr v l) (ht : t ≠ 5) (ho : w'.ownsRow w.heap.size 5 1 v' l'.length (u8s l')) (hb : Below w.heap.size w w') (hk : KeepB wr w') : PSt w (.cells cs t) w' v' l' :=
  ⟨⟨hb, hk _ _ _ ht h.bx.box⟩, ho⟩
theorem PSt.lit {w wr w' : World} {cs : Array Value} {t : TypeId} {O : Obj} {v v' : Value} {l l' : List UInt8} {n m : Nat} {ys : List Value} (h : PSt w (.cells cs t) wr v l) (ho : w'.ownsRow w.heap.size 5 1 v' (n + m) (u8s l ++ ys)) (hg : (wr.alloc O).grownBy w' v.ownBlock) (hn : l.length = n) (hm : l'.length = m) (hy : ys = u8s l') (ht : t ≠ 5) : PSt w (.cells cs t) w' v' (l ++ l') := by
  have hoa := oaB h.own O
  have hba : Below w.heap.size w (wr.alloc O) := h.bx.bel.trans ((dbox wr O).mono h.bx.bel.size)
  refine h.k ht (own_cast ho (by rw [List.length_append, hn, hm]) (by rw [hy]; simp [u8s])) (hba.grown hg hba.size (fun q hq => (hoa.lt q hq).1)) ((keepB_alloc wr O).trans (keepB_grown hoa hg))
theorem PSt.str {w wr w' : World} {cs : Array Value} {t : TypeId} {v v' : Value} {l l' : List UInt8} {n m : Nat} {ys : List Value} (h : PSt w (.cells cs t) wr v l) (ho : w'.ownsRow w.heap.size 5 1 v' (n + m) (u8s l ++ ys)) (hg : wr.grownBy w' v.ownBlock) (hn : l.length = n) (hm : l'.length = m) (hy : ys = u8s l') (ht : t ≠ 5) : PSt w (.cells cs t) w' v' (l ++ l') :=
  h.k ht (own_cast ho (by rw [List.length_append, hn, hm]) (by rw [hy]; simp [u8s])) (h.bx.bel.grown hg h.bx.bel.size (fun q hq => (h.own.lt q hq).1)) (keepB_grown h.own hg)
set_option maxRecDepth 100000 in
set_option maxHeartbeats 4000000 in
theorem payloadOf_any (h : PH) (D : Pgm) (hg : Good D) (w : World) (aR bE : Addr) (hT : OpTab w) (hS : Sent w aR bE) (hz : PLies w h D) :
    Calls Tryz.prog 32 #[pV h D] w fun e w' => e = .returned (.string ⟨(payL D).toArray⟩) ∧ Below w.heap.size w w' := by
  obtain ⟨i0, hi⟩ := u8_info
  have HI := Lib.hid hi
  clear hi
  obtain ⟨H1, H2, H3, H4⟩ := HI.out
  have HZ := Lib.hid hz
  have HT := Lib.hid hT
  have HS := Lib.hid hS
  have hn0 : D.n0 ≤ 8 := hg.hk.1
  have hn1 : D.n1 ≤ 6 := hg.hr.1
  have hn2 : D.n2 ≤ 5 := hg.ht.2.1
  have E0 : Hid (D.ks.length = D.n0) := Lib.hid rfl
  have E1 : Hid (D.rs.length = D.n1) := Lib.hid rfl
  have E2 : Hid (D.ts.length = D.n2) := Lib.hid rfl
  have HK : Hid (∀ j, j < D.n0 → kindB (D.ks.getD j 0) = true) := Lib.hid (fun j hj => by
    have : j < D.ks.length := hj
    have e : D.ks.getD j 0 = D.ks[j] := by simp [List.getD, this]
    rw [e]; exact hg.hk.2 _ (List.getElem_mem this))
  have HR : Hid (∀ j, j < D.n1 → okAll (D.rs.getD j []) = true ∧ (D.rs.getD j []).length ≤ 40) := Lib.hid (fun j hj => by
    have : j < D.rs.length := hj
    have e : D.rs.getD j [] = D.rs[j] := by simp [List.getD, this]
    rw [e]; exact hg.hr.2 _ (List.getElem_mem this))
  have HTK : Hid (∀ j, j < D.n2 → tkB (D.ts.getD j t0) = true) := Lib.hid (fun j hj => by
    have : j < D.ts.length := hj
    have e : D.ts.getD j t0 = D.ts[j] := by simp [List.getD, this]
    rw [e]; exact hg.ht.2.2 _ (List.getElem_mem this))
  have HBT := Lib.hid (fun w hz => bitsOf_any D.sa h.a3 h.c3 (by rw [hg.hs]; decide) w hz)
  have HB8 : Hid (bitsN D.sa ≤ 255) := Lib.hid (by have := bits_small (sa := D.sa) (by rw [hg.hs]; decide) 0; rwa [List.drop_zero] at this)
  have LK := Lib.hid (pk_len hg)
  have LR := Lib.hid (pr_len hg)
  have LT := Lib.hid (pt_len hg)
  have P0 : Hid (PSt w (pO h D 34) ((w.alloc (pO h D 34)).alloc (.cells #[.int .u8 (D.n0 : Int)] 5)) (.slice (some ⟨w.heap.size + 1, 0, none⟩) 1 1) (pk D 0)) := Lib.hid (by
    have e : pk D 0 = putTo (D.n0 : Int) 1 := by unfold pk; rw [E0.out]; simp
    have hb1 := (Bx.start w (pO h D 34)).to (dbox _ (.cells #[.int .u8 (D.n0 : Int)] 5))
    refine ⟨hb1, ?_⟩
    rw [e, put1_cells (by omega) (by omega), putTo_len]
    have q := World.ownsRow_lit (base := w.heap.size) (e := 5) (size := 1) (w.alloc (pO h D 34)) #[.int .u8 (D.n0 : Int)] 1 (by simp) (by decide) rfl
    rw [show (w.alloc (pO h D 34)).heap.size = w.heap.size + 1 by simp] at q
    exact q)
  clear hz hg hT hS
  go_enter Tryz.func32, Tryz.ntmps32
  go_wp2
  go_loopw [3, 20] (fun v i wr => ∃ j : Nat, j ≤ D.n0 ∧ i = .int .i64 j ∧ Hid (PSt w (pO h D 34) wr v (pk D j))) (fun _ i _ => D.n0 - (intOf i).toNat)
  case atStart => exact ⟨0, Nat.zero_le _, rfl, P0⟩
  case round =>
    obtain ⟨j, hj, rfl, HO⟩ := hrel
    have hsz := HO.out.bx.bel.size
    by_cases hlt : j < D.n0
    · obtain ⟨b, o, ea, hbl, hcs⟩ := HZ.out.ks.open (by rw [kC_len, E0.out]; omega)
      have d0 := (HO.out.bx.bel.cell (p := ⟨b, o + j, none⟩) hbl).trans (kind_at hcs (i := j) (by rw [E0.out]; exact hlt))
      have HS1 := Lib.hid (pk_step (D := D) (j := j) (by rw [E0.out]; exact hlt))
      have hkb := HK.out j hlt
      have hl := LK.out j
      clear hcs
      generalize D.ks.getD j 0 = x at *
      have hx1 : 0 ≤ x ∧ x ≤ 255 := by rcases kindB_yes hkb with rfl | rfl | rfl | rfl <;> decide
      obtain ⟨hx1, hx2⟩ := hx1
      have HC := Lib.hid (put1_cells hx1 hx2)
      have HKD : Hid (kdL x = putTo x 1) := Lib.hid rfl
      clear hkb
      generalize pk D j = X at *
      rw [ea]
      go_wp2_with (at_builtin; go_must (refine wpList_append_own _ rfl (.tmp 24) (.tmp 27) _ rfl w.heap.size 5 i0 _ 1 1 Tryz.underlying42 H1 H2 H3 H4 rfl (by decide) _ X.length _ rfl (oaB HO.out.own _) ⟨wr.heap.size, 0, none⟩ 1 1 [.int .u8 x] rfl rfl (lit_at (X := wr) rfl [.int .u8 x] 5) (by simp [Value.oneCell']) (by unfold maxLen; omega) (by omega) (Nat.le_trans hsz (dbox _ _).size) ?_); intro v1 w1 g1 g2 _; have HO := Lib.hid (HO.out.lit (l' := putTo x 1) g1 g2 rfl (putTo_len _ _) (HC.out.symm) (by decide)); clear g1 g2)
      go_roundw
      case rel => exact ⟨j + 1, by omega, by go_num, by rw [HS1.out]; exact HO⟩
      case measure => simp [intOf]; omega
    · obtain rfl : j = D.n0 := by omega
      have b1 := cell_of_row _ w.heap.size 1 _ _ _ HO.out.bx.box
      have H : Hid (pk D D.n0 ++ putTo (D.n1 : Int) 1 = pr D 0) := Lib.hid (by unfold pr; rw [E0.out, E1.out]; simp)
      have hl := LK.out D.n0
      have HC := Lib.hid (put1_cells (n := (D.n1 : Int)) (by omega) (by omega))
      generalize pk D D.n0 = X at *
      clear hlt
      go_wp2_with (at_builtin; go_must (refine wpList_append_own _ rfl (.tmp 30) (.tmp 35) _ rfl w.heap.size 5 i0 _ 1 1 Tryz.underlying42 H1 H2 H3 H4 rfl (by decide) _ X.length _ rfl (oaB HO.out.own _) ⟨wr.heap.size, 0, none⟩ 1 1 [.int .u8 (D.n1 : Int)] rfl rfl (lit_at (X := wr) rfl [.int .u8 (D.n1 : Int)] 5) (by simp [Value.oneCell']) (by unfold maxLen; omega) (by omega) (Nat.le_trans hsz (dbox _ _).size) ?_); intro v1 w1 g1 g2 _; have HO := Lib.hid (HO.out.lit (l' := putTo (D.n1 : Int) 1) g1 g2 rfl (putTo_len _ _) (HC.out.symm) (by decide)); clear g1 g2; have b1 := cell_of_row _ w.heap.size 1 _ _ _ HO.out.bx.box)
      clear b1 hl hsz
      rw [H.out] at HO
      go_loopw [3, 40] (fun v i wr => ∃ j : Nat, j ≤ D.n1 ∧ i = .int .i64 j ∧ Hid (PSt w (pO h D 34) wr v (pr D j))) (fun _ i _ => D.n1 - (intOf i).toNat)
      case atStart => exact ⟨0, Nat.zero_le _, rfl, HO⟩
      case round =>
        clear HO
        obtain ⟨j, hj, rfl, HO⟩ := hrel
        have hsz := HO.out.bx.bel.size
        by_cases hlt : j < D.n1
        · obtain ⟨b, o, x, c2, ea, hbl, hcell, hlies⟩ := HZ.out.rs.at (j := j) (by rw [E1.out]; exact hlt)
          have d0 := (HO.out.bx.bel.cell (p := ⟨b, o + j, none⟩) hbl).trans hcell
          have HS1 := Lib.hid (pr_step (D := D) (j := j) (by rw [E1.out]; exact hlt))
          obtain ⟨hok, h40⟩ := HR.out j hlt
          have hl := LR.out j
          have HCT := Lib.hid (fun w2 (hb : Below w.heap.size w w2) => codeText_any (D.rs.getD j []) x c2 (by omega) w w2 aR bE HT.out HS.out hb (hlies.below hb (Nat.le_refl _)))
          have HCO := Lib.hid (code_ok (zs := D.rs.getD j []) (by omega) hok)
          have hcl := codeL_len (D.rs.getD j [])
          have HF2 := Lib.hid (len_fits h40)
          clear hcell hlies hok
          generalize pr D j = X at *
          generalize D.rs.getD j [] = z at *
          have hcl' : (codeL z).length ≤ 200 := by omega
          rw [HCO.out.1, HCO.out.2] at HCT
          have HRT : Hid (rtL z = putTo ((codeL z).length : Int) 2 ++ codeL z) := Lib.hid rfl
          clear hcl h40
          generalize codeL z = CL at *
          generalize z.length = q at *
          have Ha := Lib.hid (dbox wr (.cells #[.slice x q c2] 87))
          have HOa := Lib.hid (HO.out.to Ha.out)
          rw [ea]
          go_wp2_with fail
          refine Calls.mono (HCT.out _ HOa.out.bx.bel) ?_
          rintro e w3 ⟨rfl, hb⟩
          have HO := Lib.hid (HOa.out.to hb)
          clear hb d0 hsz HOa
          go_wp2_with fail
          refine (appendNumber_k w _ aR bE (CL.length : Int) 2 HF2.out _ X (by omega) HS.out HO.out.bx.bel HO.out.own).mono ?_
          rintro e w4 ⟨v4, rfl, ho4, hb4, hk4⟩
          have HO := Lib.hid (HO.out.k (by decide) ho4 hb4 hk4)
          have hsz := HO.out.bx.bel.size
          have hl4 : (X ++ putTo (CL.length : Int) (2 : Int).toNat).length ≤ 1400 := by rw [List.length_append, putTo_len]; omega
          clear ho4 hb4 hk4
          generalize hX2 : X ++ putTo (CL.length : Int) (2 : Int).toNat = X2 at *
          have HX2 := Lib.hid hX2
          clear hX2
          go_wp2_with (at_builtin; go_must (refine Lib.wpList_append_own_string _ rfl (.tmp 54) (.tmp 55) _ _ rfl w.heap.size 5 i0 Tryz.underlying42 Tryz.underlying9 H1 H2 H3 H4 _ X2.length _ rfl HO.out.own ⟨CL.toArray⟩ rfl (by unfold maxLen; simp [ByteArray.size]; omega) (by simp [ByteArray.size]; omega) hsz ?_); intro v1 w1 g1 g2 _; have HO := Lib.hid (HO.out.str (l' := CL) g1 g2 rfl (by simp [ByteArray.size]) (str_u8s _) (by decide)); clear g1 g2)
          go_roundw
          case rel => exact ⟨j + 1, by omega, by go_num, by rw [HS1.out, HRT.out]; have q := HO.out; rw [← HX2.out, List.append_assoc] at q; exact Lib.hid q⟩
          case measure => simp [intOf]; omega
        · obtain rfl : j = D.n1 := by omega
          have b2 := cell_of_row _ w.heap.size 2 _ _ _ HO.out.bx.box
          have H : Hid (pr D D.n1 ++ putTo (D.n2 : Int) 1 = pt D 0) := Lib.hid (by unfold pt; rw [E1.out, E2.out]; simp)
          have hl := LR.out D.n1
          have HC := Lib.hid (put1_cells (n := (D.n2 : Int)) (by omega) (by omega))
          generalize pr D D.n1 = X at *
          clear hlt
          go_wp2_with (at_builtin; go_must (refine wpList_append_own _ rfl (.tmp 58) (.tmp 63) _ rfl w.heap.size 5 i0 _ 1 1 Tryz.underlying42 H1 H2 H3 H4 rfl (by decide) _ X.length _ rfl (oaB HO.out.own _) ⟨wr.heap.size, 0, none⟩ 1 1 [.int .u8 (D.n2 : Int)] rfl rfl (lit_at (X := wr) rfl [.int .u8 (D.n2 : Int)] 5) (by simp [Value.oneCell']) (by unfold maxLen; omega) (by omega) (Nat.le_trans hsz (dbox _ _).size) ?_); intro v1 w1 g1 g2 _; have HO := Lib.hid (HO.out.lit (l' := putTo (D.n2 : Int) 1) g1 g2 rfl (putTo_len _ _) (HC.out.symm) (by decide)); clear g1 g2; have b2 := cell_of_row _ w.heap.size 2 _ _ _ HO.out.bx.box)
          clear b2 hl hsz
          rw [H.out] at HO
          go_loopw [3, 68] (fun v i wr => ∃ j : Nat, j ≤ D.n2 ∧ i = .int .i64 j ∧ Hid (PSt w (pO h D 34) wr v (pt D j))) (fun _ i _ => D.n2 - (intOf i).toNat)
          case atStart => exact ⟨0, Nat.zero_le _, rfl, HO⟩
          case round =>
            clear HO
            obtain ⟨j, hj, rfl, HO⟩ := hrel
            have hsz := HO.out.bx.bel.size
            by_cases hlt : j < D.n2
            · obtain ⟨b, o, ea, hbl, hcs⟩ := HZ.out.ts.open (by rw [flat_len tC_len, E2.out]; omega)
              obtain ⟨q0, q1, q2, q3, q4, q5⟩ := C6.bel (tt_at hcs (i := j) (by rw [E2.out]; exact hlt)) HO.out.bx.bel hbl
              have HS1 := Lib.hid (pt_step (D := D) (j := j) (by rw [E2.out]; exact hlt))
              have HTB := Lib.hid (HTK.out j hlt)
              have hl := LT.out j
              clear hcs
              generalize pt D j = X at *
              generalize D.ts.getD j t0 = z at *
              have HOa := Lib.hid (HO.out.to (dbox wr (tO z 90)))
              rw [ea]
              go_wp2_with fail
              refine (appendTask_any w _ aR bE z HTB.out _ X (by omega) HS.out HOa.out.bx.bel HOa.out.own).mono ?_
              rintro e w4 ⟨v4, rfl, ho4, hb4, hk4⟩
              have HO := Lib.hid (HOa.out.k (by decide) ho4 hb4 hk4)
              clear ho4 hb4 hk4 q0 q1 q2 q3 q4 q5
              go_wp2
              go_roundw
              case rel => exact ⟨j + 1, by omega, by go_num, by rw [HS1.out]; exact HO⟩
              case measure => simp [intOf]; omega
            · obtain rfl : j = D.n2 := by omega
              have b3 := cell_of_row _ w.heap.size 3 _ _ _ HO.out.bx.box
              have H : Hid (pt D D.n2 ++ putTo ((bitsN D.sa : Nat) : Int) 1 = payL D) := Lib.hid (by
                have := HB8.out
                rw [← pay_pt D, E2.out]
                rw [byt0 this])
              have hl := LT.out D.n2
              have HC := Lib.hid (put1_cells (n := ((bitsN D.sa : Nat) : Int)) (by omega) (by have := HB8.out; omega))
              have hb8 := HB8.out
              generalize pt D D.n2 = X at *
              generalize hBN : bitsN D.sa = BN at *
              clear hlt
              go_wp2_with fail
              refine Calls.mono (HBT.out _ (HZ.out.below HO.out.bx.bel (Nat.le_refl _)).sa) ?_
              rintro e w4 ⟨rfl, rfl⟩
              clear hBN
              go_wp2_with (at_builtin; go_must (refine wpList_append_own _ rfl (.tmp 76) (.tmp 81) _ rfl w.heap.size 5 i0 _ 1 1 Tryz.underlying42 H1 H2 H3 H4 rfl (by decide) _ X.length _ rfl (oaB HO.out.own _) ⟨wr.heap.size, 0, none⟩ 1 1 [.int .u8 (BN : Int)] rfl rfl (lit_at (X := wr) rfl [.int .u8 (BN : Int)] 5) (by simp [Value.oneCell']) (by unfold maxLen; omega) (by omega) (Nat.le_trans hsz (dbox _ _).size) ?_); intro v1 w1 g1 g2 _; have HO := Lib.hid (HO.out.lit (l' := putTo (BN : Int) 1) g1 g2 rfl (putTo_len _ _) (HC.out.symm) (by decide)); clear g1 g2; rw [H.out] at HO; have hcv := own_str (P := Tryz.prog) 42 9 5 Tryz.underlying42 Tryz.underlying5 Tryz.underlying9 HO.out.own)
              go_ret
              exact ⟨rfl, HO.out.bx.bel⟩
end Go.Proofs.YtpdnkcfphjbbfaaGreatDoor
