/- FlatOf of impl and of spec. -/
import Derived.Test.YtnehaidkhpjpbaaDoorFlatRow
import Derived.Test.YtnehaidkhpjpbaaDoorOkV
import Derived.Test.YtnehaidkhpjpbaaDoorSpec5
import Derived.Test.YtnehaidkhpjpbaaDoorMatch
import Derived.Test.YtnehaidkhpjpbaaDoorOwn
import Derived.Test.YtnehaidkhpjpbaaDoorGen
namespace Go.Proofs.YtnehaidkhpjpbaaDoor
open Go.ChangeShapes Go.WideShapes Go.ChangeAt Go.RowKit
set_option linter.unusedVariables false
/-- A cell set in a row of the call's own. -/
theorem own_set {w : World} {B n c p : Nat} {hs : List Ins} {ts : List Int} {j : Nat} {t : Int} (hl : hs.length = ts.length) (h : w.ownsRow B 116 3 (.slice (some ⟨p, 0, none⟩) n c) n (fl3 hs ts)) : (w.setCell ⟨p, j * 3 + 2, none⟩ (.int .i64 t)).ownsRow B 116 3 (.slice (some ⟨p, 0, none⟩) n c) n (fl3 hs (ts.set j t)) := by
  rw [← fl3_to hs ts j t hl]
  exact (h.stored (j * 3 + 2) (.int .i64 t)).1
theorem own_set_op {w : World} {B n c p : Nat} {hs : List Ins} {ts : List Int} {j : Nat} {x y : Int} (hl : hs.length = ts.length) (h : w.ownsRow B 116 3 (.slice (some ⟨p, 0, none⟩) n c) n (fl3 hs ts)) : ((w.setCell ⟨p, j * 3, none⟩ (.int .i64 x)).setCell ⟨p, j * 3 + 1, none⟩ (.int .i64 y)).ownsRow B 116 3 (.slice (some ⟨p, 0, none⟩) n c) n (fl3 (hs.set j (x, y)) ts) := by
  rw [← fl3_op hs ts j (x, y) hl]
  exact ((h.stored (j * 3) (.int .i64 x)).1.stored (j * 3 + 1) (.int .i64 y)).1
theorem own_there {w : World} {B n c p : Nat} {e : TypeId} {xs : List Value} (h : w.ownsRow B e 3 (.slice (some ⟨p, 0, none⟩) n c) n xs) {j : Nat} (hj : j < n * 3) : ∃ v, w.cell? ⟨p, j, none⟩ = some v := by
  have hc := h.cellAt j hj
  rw [hc]
  exact ⟨_, List.getElem?_eq_getElem (by rw [h.1]; exact hj)⟩
theorem made3 (z : Value) (m : Nat) : (madeCells #[z, z, z] m).toList = List.replicate m z := by
  apply List.ext_getElem
  · simp [madeCells]
  · intro i h1 h2
    have h3 : i % 3 = 0 ∨ i % 3 = 1 ∨ i % 3 = 2 := by omega
    rcases h3 with h | h | h <;> simp [madeCells, h]
def FRow (w : World) (B n : Nat) (zs : List Ins) (k : Nat) : Prop := w.ownsRow B 116 3 (.slice (some ⟨B, 0, none⟩) n n) n (fl3 (hdOf zs k) (tosOf zs k))
def FlatPost (zs : List Ins) (w : World) (e : Ending) (w' : World) : Prop := ∃ a c, e = .returned (.slice a (flatF zs).length c) ∧ w'.ownsRow w.heap.size 116 3 (.slice a (flatF zs).length c) (flatF zs).length (flat f3C (flatF zs)) ∧ Below w.heap.size w w'
set_option maxRecDepth 100000 in
set_option maxHeartbeats 4000000 in
theorem implFlat_any (zs : List Ins) (a : Option Addr) (c : Nat) (hn : zs.length ≤ 40) (hM : ∀ k, k < zs.length → opens zs k → ∃ o e, vMatch zs k = some (o, e) ∧ MOK zs k o e) (w : World) (hz : Lies w a (flat insC zs)) :
    Calls Tryd.prog 76 #[.slice a zs.length c] w (FlatPost zs w) := by
  obtain ⟨i0, hi, hz0, hz1, hz2⟩ := info_parts (show (Tryd.prog.info? 116).map (fun i => (i.zero, i.size, i.bytes)) = some (some (.agg #[.int .i64 0, .int .i64 0, .int .i64 0]), 3, 24) by kernel_rfl)
  have HI := Lib.hid (And.intro hi (And.intro hz0 (And.intro hz1 hz2)))
  clear hi hz0 hz1 hz2
  have HZ := Lib.hid hz
  have HMM := Lib.hid hM
  have HP : Hid (∀ w', FRow w' w.heap.size zs.length zs zs.length → Below w.heap.size w w' → FlatPost zs w (.returned (.slice (some ⟨w.heap.size, 0, none⟩) zs.length zs.length)) w') := Lib.hid (fun w' h1 h2 => by
    unfold FRow at h1
    rw [hdOf_end] at h1
    have hl := flatF_len zs
    refine ⟨some ⟨w.heap.size, 0, none⟩, zs.length, by rw [hl], ?_, h2⟩
    rw [hl]
    exact h1)
  have HMF := Lib.hid (fun k hk hx w hz => matchFrom_any zs a c k hk (by omega) hx w hz)
  have HL0 := Lib.hid (fun k => tosOf_len zs k)
  have HLH := Lib.hid (fun k (h : k ≤ zs.length) => hdOf_len zs h)
  have HST := Lib.hid (fun k (h : k < zs.length) => hdOf_step h)
  have H00 : Hid (fl3 (hdOf zs 0) (tosOf zs 0) = List.replicate (zs.length * 3) (.int .i64 0)) := Lib.hid (by
    have : hdOf zs 0 = List.replicate zs.length (0, 0) := by simp [hdOf]
    rw [this, tosOf]
    exact fl3_zero _)
  clear hz hM
  generalize FlatPost zs w = POST at *
  generalize hL : zs.length = n at *
  have HL := Lib.hid hL
  clear hL
  go_enter Tryd.func76, Tryd.ntmps76
  go_wp2_with (at_make; go_must (refine wpList_make_full _ rfl _ _ _ rfl w.heap.size 116 i0 _ 3 Tryd.underlying55 HI.out.1 HI.out.2.1 HI.out.2.2.1 .i64 .i64 _ _ n rfl rfl rfl rfl (by rw [HI.out.2.2.2]; omega) (by unfold maxLen; omega) (Nat.le_refl _) ?_); intro w1 hown1 hgrow1)
  have Ho1 : Hid (w1.ownsRow w.heap.size 116 3 (.slice (some ⟨w.heap.size, 0, none⟩) n n) n (fl3 (hdOf zs 0) (tosOf zs 0))) := Lib.hid (by
    rw [H00.out, ← made3]
    exact hown1)
  have Hb1 := Lib.hid ((Below.refl w.heap.size w).grown hgrow1 (Nat.le_refl _) (by intro k hk; cases hk))
  clear hown1 hgrow1
  go_loopw [17] (fun i wr => ∃ k : Nat, k ≤ n ∧ i = .int .i64 k ∧ Hid (wr.ownsRow w.heap.size 116 3 (.slice (some ⟨w.heap.size, 0, none⟩) n n) n (fl3 (hdOf zs k) (tosOf zs k))) ∧ Hid (Below w.heap.size w wr)) (fun i _ => n - (intOf i).toNat)
  case atStart => exact ⟨0, Nat.zero_le _, rfl, Ho1, Hb1⟩
  case round =>
    obtain ⟨k, hk, rfl, ho, hb⟩ := hrel
    by_cases hlt : k < n
    · have HZZ := HZ
      obtain ⟨b, o, rfl, hbl, hcs⟩ := HZ.out.open (by rw [flat_len insC_len, HL.out]; omega)
      obtain ⟨c0, c1⟩ := ins_at hcs (i := k) (by rw [HL.out]; exact hlt)
      have d0 := (hb.out.cell (p := ⟨b, o + k * 2, none⟩) hbl).trans c0
      have d1 := (hb.out.cell (p := ⟨b, o + k * 2 + 1, none⟩) hbl).trans c1
      have HMK := Lib.hid (HMM.out k hlt)
      have HSK : Hid (tosOf zs (k + 1) = tosStep zs k (tosOf zs k)) := Lib.hid rfl
      have HBE := Lib.hid (fun tos o e => @tosStep_be zs k tos o e)
      have HBR := Lib.hid (fun tos o e => @tosStep_br zs k tos o e)
      have HLP := Lib.hid (fun tos o e => @tosStep_lp zs k tos o e)
      have HNO := Lib.hid (fun tos => @tosStep_no zs k tos)
      have HHK := Lib.hid (HST.out k hlt)
      have HLK : Hid ((hdOf zs k).length = (tosOf zs k).length) := Lib.hid ((HLH.out k (by omega)).trans (HL0.out k).symm)
      have HLK2 : Hid ((hdOf zs (k + 1)).length = (tosOf zs k).length) := Lib.hid ((HLH.out (k + 1) (by omega)).trans (HL0.out k).symm)
      have HMFk := Lib.hid (fun (hx : opens zs k) w hz => HMF.out k hlt hx w hz)
      have HOP : Hid (opens zs k ↔ ((zs.getD k (0, 0)).1 = 21 ∨ (zs.getD k (0, 0)).1 = 24)) := Lib.hid Iff.rfl
      clear hcs c0 c1
      generalize (zs.getD k (0, 0)).1 = x at *
      generalize (zs.getD k (0, 0)).2 = y at *
      have HBa := Lib.hid (hb.out.alloc hb.out.size (.cells #[.int .i64 x, .int .i64 y] 77))
      have hoa := own_bl ho.out (dbox wr (.cells #[.int .i64 x, .int .i64 y] 77))
      have ka := heap_alloc_new wr (.cells #[.int .i64 x, .int .i64 y] 77)
      have HOS := Lib.hid (own_set_op (j := k) (x := x) (y := y) HLK.out hoa)
      have kk0 := cell_of_row _ wr.heap.size 0 _ _ _ ka
      have kk1 := cell_of_row _ wr.heap.size 1 _ _ _ ka
      obtain ⟨v0, e0⟩ := own_there hoa (j := k * 3) (by omega)
      obtain ⟨v1, e1⟩ := own_there hoa (j := k * 3 + 1) (by omega)
      have f0 := hoa.frozenAt (k * 3)
      have f1 := hoa.frozenAt (k * 3 + 1)
      have hne : w.heap.size ≠ wr.heap.size := by have := (ho.out.lt w.heap.size rfl).2; omega
      have ka2 := Lib.hid ka
      clear hoa ka
      go_wp2
      go_region
      have HOX := Lib.hid (own_bl HOS.out (Below.refl _ _).drew)
      have HBX : Hid (Below w.heap.size w ((((wr.alloc (.cells #[.int .i64 x, .int .i64 y] 77)).setCell ⟨w.heap.size, k * 3, none⟩ (.int .i64 x)).setCell ⟨w.heap.size, k * 3 + 1, none⟩ (.int .i64 y)).drew)) := Lib.hid (bel_set (bel_set HBa.out (Nat.le_refl _) _) (Nat.le_refl _) _).drew
      have q0 : ((((wr.alloc (.cells #[.int .i64 x, .int .i64 y] 77)).setCell ⟨w.heap.size, k * 3, none⟩ (.int .i64 x)).setCell ⟨w.heap.size, k * 3 + 1, none⟩ (.int .i64 y)).drew).cell? ⟨wr.heap.size, 0, none⟩ = some (.int .i64 x) := by
        have := blk_far (p := w.heap.size) (i := k * 3 + 1) (blk_far (p := w.heap.size) (i := k * 3) ka2.out (Ne.symm hne) (.int .i64 x)) (Ne.symm hne) (.int .i64 y)
        exact cell_of_row _ wr.heap.size 0 _ _ _ (show ((((wr.alloc (.cells #[.int .i64 x, .int .i64 y] 77)).setCell ⟨w.heap.size, k * 3, none⟩ (.int .i64 x)).setCell ⟨w.heap.size, k * 3 + 1, none⟩ (.int .i64 y)).drew).heap[wr.heap.size]? = _ from this)
      rw [HHK.out] at HOX
      clear d0 d1 e0 e1 f0 f1 kk0 kk1 HOS HBa ka2
      generalize (((wr.alloc (.cells #[.int .i64 x, .int .i64 y] 77)).setCell ⟨w.heap.size, k * 3, none⟩ (.int .i64 x)).setCell ⟨w.heap.size, k * 3 + 1, none⟩ (.int .i64 y)).drew = X at *
      have HLX := Lib.hid (HZZ.out.below HBX.out (Nat.le_refl _))
      by_cases h21 : x = 21
      · obtain ⟨o', e', hv, hmok⟩ := HMK.out (HOP.out.2 (.inl h21))
        obtain ⟨⟨m, rfl, hm1, hm2⟩, hel⟩ := hmok
        rw [HL.out] at hm2
        have HMX := Lib.hid (HMFk.out (HOP.out.2 (.inl h21)) X HLX.out)
        rw [hv] at HMX
        obtain ⟨v2, e2⟩ := own_there HOX.out (j := m * 3 + 2) (by omega)
        obtain ⟨v3, e3⟩ := own_there HOX.out (j := k * 3 + 2) (by omega)
        have f2 := HOX.out.frozenAt (m * 3 + 2)
        have f3 := HOX.out.frozenAt (k * 3 + 2)
        have hmn : (m : Int) < n := by omega
        have hkn : (k : Int) < n := by omega
        by_cases hq : 0 < o'
        · obtain ⟨q, rfl, hq1, hq2⟩ : ∃ q : Nat, o' = q ∧ k < q ∧ (q : Int) < m := by
            rcases hel with h | h
            · omega
            · exact h
          obtain ⟨v4, e4⟩ := own_there HOX.out (j := q * 3 + 2) (by omega)
          have f4 := HOX.out.frozenAt (q * 3 + 2)
          have hqn : (q : Int) < n := by omega
          have HF := Lib.hid (own_set (j := k) (t := (q : Int) + 1) (by simp [HLK2.out]) (own_set (j := q) (t := (m : Int) + 1) (by simp [HLK2.out]) (own_set (j := k) (t := (m : Int) + 1) (by simp [HLK2.out]) (own_set (j := m) (t := (m : Int) + 1) HLK2.out HOX.out))))
          rw [tos_be' hq1 (by omega), show ((tosOf zs k).set k ((q : Int) + 1)).set q ((m : Int) + 1) = ((tosOf zs k).set k ((q : Int) + 1)).set (q : Int).toNat ((m : Int) + 1) from rfl, show (((tosOf zs k).set k ((q : Int) + 1)).set (q : Int).toNat ((m : Int) + 1)).set m ((m : Int) + 1) = (((tosOf zs k).set k ((q : Int) + 1)).set (q : Int).toNat ((m : Int) + 1)).set (m : Int).toNat ((m : Int) + 1) from rfl, ← HBE.out (tosOf zs k) q m h21 hv hq, ← HSK.out] at HF
          have HBF := Lib.hid (bel_set (i := k * 3 + 2) (bel_set (i := q * 3 + 2) (bel_set (i := k * 3 + 2) (bel_set (i := m * 3 + 2) (p := w.heap.size) HBX.out (Nat.le_refl _) (.int .i64 ((m : Int) + 1))) (Nat.le_refl _) (.int .i64 ((m : Int) + 1))) (Nat.le_refl _) (.int .i64 ((m : Int) + 1))) (Nat.le_refl _) (.int .i64 ((q : Int) + 1)))
          clear hv hel HMK HBE HBR HLP HNO
          subst h21
          go_wp2_with fail
          refine Calls.mono HMX.out ?_
          rintro e w2 ⟨rfl, rfl⟩
          simp only [mRes]
          go_wp2
          go_roundw
          case rel => exact ⟨k + 1, by omega, by go_num, HF, HBF⟩
          case measure => simp [intOf]; omega
        · have HF := Lib.hid (own_set (j := k) (t := (m : Int) + 1) (by simp [HLK2.out]) (own_set (j := m) (t := (m : Int) + 1) HLK2.out HOX.out))
          rw [tos_br' hm1, show ((tosOf zs k).set k ((m : Int) + 1)).set m ((m : Int) + 1) = ((tosOf zs k).set k ((m : Int) + 1)).set (m : Int).toNat ((m : Int) + 1) from rfl, ← HBR.out (tosOf zs k) o' m h21 hv (by omega), ← HSK.out] at HF
          have HBF := Lib.hid (bel_set (i := k * 3 + 2) (bel_set (i := m * 3 + 2) (p := w.heap.size) HBX.out (Nat.le_refl _) (.int .i64 ((m : Int) + 1))) (Nat.le_refl _) (.int .i64 ((m : Int) + 1)))
          clear hv hel HMK HBE HBR HLP HNO
          subst h21
          go_wp2_with fail
          refine Calls.mono HMX.out ?_
          rintro e w2 ⟨rfl, rfl⟩
          simp only [mRes]
          go_wp2
          go_roundw
          case rel => exact ⟨k + 1, by omega, by go_num, HF, HBF⟩
          case measure => simp [intOf]; omega
      by_cases h24 : x = 24
      · obtain ⟨o', e', hv, hmok⟩ := HMK.out (HOP.out.2 (.inr h24))
        obtain ⟨⟨m, rfl, hm1, hm2⟩, hel⟩ := hmok
        rw [HL.out] at hm2
        have HMX := Lib.hid (HMFk.out (HOP.out.2 (.inr h24)) X HLX.out)
        rw [hv] at HMX
        obtain ⟨v2, e2⟩ := own_there HOX.out (j := m * 3 + 2) (by omega)
        have f2 := HOX.out.frozenAt (m * 3 + 2)
        have hmn : (m : Int) < n := by omega
        have HF := Lib.hid (own_set (j := m) (t := (k : Int) + 1) HLK2.out HOX.out)
        rw [show (tosOf zs k).set m ((k : Int) + 1) = (tosOf zs k).set (m : Int).toNat ((k : Int) + 1) from rfl, ← HLP.out (tosOf zs k) o' m h24 hv, ← HSK.out] at HF
        have HBF := Lib.hid (bel_set (i := m * 3 + 2) (p := w.heap.size) HBX.out (Nat.le_refl _) (.int .i64 ((k : Int) + 1)))
        clear hv hel HMK HBE HBR HLP HNO h21
        subst h24
        go_wp2_with fail
        refine Calls.mono HMX.out ?_
        rintro e w2 ⟨rfl, rfl⟩
        simp only [mRes]
        go_wp2
        go_roundw
        case rel => exact ⟨k + 1, by omega, by go_num, HF, HBF⟩
        case measure => simp [intOf]; omega
      rw [← HNO.out (tosOf zs k) h21 h24, ← HSK.out] at HOX
      clear HMK HBE HBR HLP HNO
      go_wp2
      go_roundw
      case rel => exact ⟨k + 1, by omega, by go_num, HOX, HBX⟩
      case measure => simp [intOf]; omega
    · obtain rfl : k = n := by omega
      go_wp2
      exact HP.out _ ho.out hb.out
theorem take_snoc {zs : List Ins} {k : Nat} (h : k < zs.length) : zs.take (k + 1) = zs.take k ++ [((zs.getD k (0, 0)).1, (zs.getD k (0, 0)).2)] := by
  have e : zs.take (k + 1) = zs.take k ++ [zs[k]] := by rw [List.take_add_one, List.getElem?_eq_getElem h]; rfl
  have e2 : zs.getD k (0, 0) = zs[k] := by simp [List.getD, h]
  rw [e, e2]
theorem fl3_next {zs : List Ins} {k : Nat} (h : k < zs.length) : fl3 (zs.take (k + 1)) (List.replicate (k + 1) 0) = fl3 (zs.take k) (List.replicate k 0) ++ [.int .i64 (zs.getD k (0, 0)).1, .int .i64 (zs.getD k (0, 0)).2, .int .i64 0] := by
  rw [take_snoc h, List.replicate_succ', fl3_snoc _ _ _ _ (by simp; omega)]
set_option maxRecDepth 100000 in
set_option maxHeartbeats 4000000 in
theorem specFlat_any (zs : List Ins) (a : Option Addr) (c : Nat) (hn : zs.length ≤ 40) (hM : ∀ k, k < zs.length → opens zs k → ∃ o e, vMatch zs k = some (o, e) ∧ MOK zs k o e) (w : World) (hz : Lies w a (flat insC zs)) :
    Calls Tryd.prog 75 #[.slice a zs.length c] w (FlatPost zs w) := by
  obtain ⟨i0, hi, hz0, hz1, hz2⟩ := info_parts (show (Tryd.prog.info? 116).map (fun i => (i.zero, i.size, i.bytes)) = some (some (.agg #[.int .i64 0, .int .i64 0, .int .i64 0]), 3, 24) by kernel_rfl)
  have HI := Lib.hid (And.intro hi (And.intro hz0 (And.intro hz1 hz2)))
  clear hi hz0 hz1 hz2
  have HZ := Lib.hid hz
  have HMM := Lib.hid hM
  have HP : Hid (∀ g c' w', w'.ownsRow w.heap.size 116 3 (.slice (some ⟨g, 0, none⟩) zs.length c') zs.length (fl3 zs (tosOf zs zs.length)) → Below w.heap.size w w' → FlatPost zs w (.returned (.slice (some ⟨g, 0, none⟩) zs.length c')) w') := Lib.hid (fun g c' w' h1 h2 => by
    have hl := flatF_len zs
    refine ⟨some ⟨g, 0, none⟩, c', by rw [hl], ?_, h2⟩
    rw [hl]
    exact h1)
  have HMF := Lib.hid (fun k hk w hz => l04Match_any zs a c k hk (by omega) w hz)
  have HL0 := Lib.hid (fun k => tosOf_len zs k)
  have HNX := Lib.hid (fun k (h : k < zs.length) => fl3_next h)
  have H00 : Hid (fl3 (zs.take zs.length) (List.replicate zs.length 0) = fl3 zs (tosOf zs 0)) := Lib.hid (by rw [List.take_length, tosOf])
  clear hz hM
  generalize FlatPost zs w = POST at *
  generalize hL : zs.length = n at *
  have HL := Lib.hid hL
  clear hL
  go_enter Tryd.func75, Tryd.ntmps75
  go_wp2
  go_loopw [3, 4] (fun v i wr => ∃ k g c' : Nat, k ≤ n ∧ v = .slice (some ⟨g, 0, none⟩) k c' ∧ i = .int .i64 k ∧ Hid (wr.ownsRow w.heap.size 116 3 (.slice (some ⟨g, 0, none⟩) k c') k (fl3 (zs.take k) (List.replicate k 0))) ∧ Hid (Below w.heap.size w wr)) (fun _ i _ => n - (intOf i).toNat)
  case atStart => exact ⟨0, w.heap.size, 0, Nat.zero_le _, rfl, rfl, Lib.hid (World.ownsRow_lit w #[] 0 (Nat.le_refl _) (Nat.zero_le _) rfl), Lib.hid ((Below.refl _ _).alloc (Nat.le_refl _) _)⟩
  case round =>
    obtain ⟨k, g, c', hk, rfl, rfl, ho, hb⟩ := hrel
    by_cases hlt : k < n
    · obtain ⟨b, o, rfl, hbl, hcs⟩ := HZ.out.open (by rw [flat_len insC_len, HL.out]; omega)
      obtain ⟨c0, c1⟩ := ins_at hcs (i := k) (by rw [HL.out]; exact hlt)
      have d0 := (hb.out.cell (p := ⟨b, o + k * 2, none⟩) hbl).trans c0
      have d1 := (hb.out.cell (p := ⟨b, o + k * 2 + 1, none⟩) hbl).trans c1
      have HNK := Lib.hid (HNX.out k hlt)
      clear hcs c0 c1
      generalize (zs.getD k (0, 0)).1 = x at *
      generalize (zs.getD k (0, 0)).2 = y at *
      obtain ⟨H1, H2, H3, H4⟩ := HI.out
      have hown := ho.out
      have hbel := hb.out
      generalize fl3 (zs.take k) (List.replicate k 0) = xs at *
      have H1c : Hid (∀ u ∈ [Value.int .i64 x, .int .i64 y, .int .i64 0], u.oneCell' = true) := Lib.hid (by simp [Value.oneCell'])
      have HM1 : Hid (k + 1 ≤ maxLen) := Lib.hid (by unfold maxLen; omega)
      have HM2 : Hid ((k + 1) * 24 ≤ 140737488355328) := Lib.hid (by omega)
      have H03 : Hid (0 < 3) := Lib.hid (by decide)
      go_wp2
      go_region_law (refine step_append_own rfl (.tmp 19) (.tmp 31) _ rfl w.heap.size 116 i0 _ 3 24 Tryd.underlying55 H1 H2 H3 H4 rfl H03.out (.slice (some ⟨g, 0, none⟩) k c') k xs rfl (hown.alloc _) ⟨wr.heap.size, 0, none⟩ 1 1 [.int .i64 x, .int .i64 y, .int .i64 0] rfl rfl (three_cells _ _ _ _ _) H1c.out HM1.out HM2.out (by have := hbel.size; simp; omega) (fun v' w' g1 g2 _ => ?_))
      all_goals
        obtain ⟨gg, cc, rfl⟩ : ∃ gg cc, v' = .slice (some ⟨gg, 0, none⟩) (k + 1) cc := by
          rcases own_form g1 with ⟨_, h⟩ | h
          · omega
          · exact h
        rw [← HNK.out] at g1
        have HF := Lib.hid g1
        have HBf := Lib.hid ((((hbel.alloc hbel.size _).drew).grown g2 (by have := hbel.size; simp; omega) (fun q hq => (hown.lt q hq).1)))
        clear g1 g2 hown hbel H1 H2 H3 H4 d0 d1
        go_wp2
        go_roundw
        case rel => exact ⟨k + 1, gg, cc, by omega, rfl, by go_num, HF, HBf⟩
        case measure => simp [intOf]; omega
    · obtain rfl : k = n := by omega
      rw [H00.out] at ho
      have hgB := (ho.out.lt g rfl).1
      go_wp2
      go_loopw [5] (fun i wr => ∃ j : Nat, j ≤ k ∧ i = .int .i64 j ∧ Hid (wr.ownsRow w.heap.size 116 3 (.slice (some ⟨g, 0, none⟩) k c') k (fl3 zs (tosOf zs j))) ∧ Hid (Below w.heap.size w wr)) (fun i _ => k - (intOf i).toNat)
      case atStart => exact ⟨0, Nat.zero_le _, rfl, ho, hb⟩
      case round =>
        clear ho hb
        obtain ⟨j, hj, rfl, ho, hb⟩ := hrel
        by_cases hlt : j < k
        · have HZZ := HZ
          obtain ⟨b, o, rfl, hbl, hcs⟩ := HZ.out.open (by rw [flat_len insC_len, HL.out]; omega)
          obtain ⟨c0, c1⟩ := ins_at hcs (i := j) (by rw [HL.out]; exact hlt)
          have d0 := (hb.out.cell (p := ⟨b, o + j * 2, none⟩) hbl).trans c0
          have HMK := Lib.hid (HMM.out j hlt)
          have HSK : Hid (tosOf zs (j + 1) = tosStep zs j (tosOf zs j)) := Lib.hid rfl
          have HBE := Lib.hid (fun tos o e => @tosStep_be zs j tos o e)
          have HBR := Lib.hid (fun tos o e => @tosStep_br zs j tos o e)
          have HLP := Lib.hid (fun tos o e => @tosStep_lp zs j tos o e)
          have HNO := Lib.hid (fun tos => @tosStep_no zs j tos)
          have HLK : Hid (zs.length = (tosOf zs j).length) := Lib.hid (HL.out.trans (HL0.out j).symm)
          have HLX := Lib.hid (HZZ.out.below hb.out (Nat.le_refl _))
          have HMX := Lib.hid (HMF.out j hlt wr HLX.out)
          have HOP : Hid (opens zs j ↔ ((zs.getD j (0, 0)).1 = 21 ∨ (zs.getD j (0, 0)).1 = 24)) := Lib.hid Iff.rfl
          clear hcs c0 c1
          generalize (zs.getD j (0, 0)).1 = x at *
          by_cases h21 : x = 21
          · obtain ⟨o', e', hv, hmok⟩ := HMK.out (HOP.out.2 (.inl h21))
            obtain ⟨⟨m, rfl, hm1, hm2⟩, hel⟩ := hmok
            rw [HL.out] at hm2
            rw [hv] at HMX
            obtain ⟨v2, e2⟩ := own_there ho.out (j := m * 3 + 2) (by omega)
            obtain ⟨v3, e3⟩ := own_there ho.out (j := j * 3 + 2) (by omega)
            have f2 := ho.out.frozenAt (m * 3 + 2)
            have f3 := ho.out.frozenAt (j * 3 + 2)
            have hmn : (m : Int) < k := by omega
            have hkn : (j : Int) < k := by omega
            by_cases hq : 0 < o'
            · obtain ⟨q, rfl, hq1, hq2⟩ : ∃ q : Nat, o' = q ∧ j < q ∧ (q : Int) < m := by
                rcases hel with h | h
                · omega
                · exact h
              obtain ⟨v4, e4⟩ := own_there ho.out (j := q * 3 + 2) (by omega)
              have f4 := ho.out.frozenAt (q * 3 + 2)
              have hqn : (q : Int) < k := by omega
              have HF := Lib.hid (own_set (j := m) (t := (m : Int) + 1) (by simp [HLK.out]) (own_set (j := q) (t := (m : Int) + 1) (by simp [HLK.out]) (own_set (j := j) (t := (q : Int) + 1) (by simp [HLK.out]) (own_set (j := j) (t := (m : Int) + 1) HLK.out ho.out))))
              rw [tos_be2 hq1 (by omega), show ((tosOf zs j).set j ((q : Int) + 1)).set q ((m : Int) + 1) = ((tosOf zs j).set j ((q : Int) + 1)).set (q : Int).toNat ((m : Int) + 1) from rfl, show (((tosOf zs j).set j ((q : Int) + 1)).set (q : Int).toNat ((m : Int) + 1)).set m ((m : Int) + 1) = (((tosOf zs j).set j ((q : Int) + 1)).set (q : Int).toNat ((m : Int) + 1)).set (m : Int).toNat ((m : Int) + 1) from rfl, ← HBE.out (tosOf zs j) q m h21 hv hq, ← HSK.out] at HF
              have HBF := Lib.hid (bel_set (i := m * 3 + 2) (bel_set (i := q * 3 + 2) (bel_set (i := j * 3 + 2) (bel_set (i := j * 3 + 2) (p := g) hb.out hgB (.int .i64 ((m : Int) + 1))) hgB (.int .i64 ((q : Int) + 1))) hgB (.int .i64 ((m : Int) + 1))) hgB (.int .i64 ((m : Int) + 1)))
              clear hv hel HMK HBE HBR HLP HNO
              subst h21
              go_wp2_with fail
              refine Calls.mono HMX.out ?_
              rintro e w2 ⟨rfl, rfl⟩
              simp only [sRes]
              go_wp2
              go_roundw
              case rel => exact ⟨j + 1, by omega, by go_num, HF, HBF⟩
              case measure => simp [intOf]; omega
            · have HF := Lib.hid (own_set (j := m) (t := (m : Int) + 1) (by simp [HLK.out]) (own_set (j := j) (t := (m : Int) + 1) HLK.out ho.out))
              rw [show ((tosOf zs j).set j ((m : Int) + 1)).set m ((m : Int) + 1) = ((tosOf zs j).set j ((m : Int) + 1)).set (m : Int).toNat ((m : Int) + 1) from rfl, ← HBR.out (tosOf zs j) o' m h21 hv (by omega), ← HSK.out] at HF
              have HBF := Lib.hid (bel_set (i := m * 3 + 2) (bel_set (i := j * 3 + 2) (p := g) hb.out hgB (.int .i64 ((m : Int) + 1))) hgB (.int .i64 ((m : Int) + 1)))
              clear hv hel HMK HBE HBR HLP HNO
              subst h21
              go_wp2_with fail
              refine Calls.mono HMX.out ?_
              rintro e w2 ⟨rfl, rfl⟩
              simp only [sRes]
              go_wp2
              go_roundw
              case rel => exact ⟨j + 1, by omega, by go_num, HF, HBF⟩
              case measure => simp [intOf]; omega
          by_cases h24 : x = 24
          · obtain ⟨o', e', hv, hmok⟩ := HMK.out (HOP.out.2 (.inr h24))
            obtain ⟨⟨m, rfl, hm1, hm2⟩, hel⟩ := hmok
            rw [HL.out] at hm2
            rw [hv] at HMX
            obtain ⟨v2, e2⟩ := own_there ho.out (j := m * 3 + 2) (by omega)
            have f2 := ho.out.frozenAt (m * 3 + 2)
            have hmn : (m : Int) < k := by omega
            have HF := Lib.hid (own_set (j := m) (t := (j : Int) + 1) HLK.out ho.out)
            rw [show (tosOf zs j).set m ((j : Int) + 1) = (tosOf zs j).set (m : Int).toNat ((j : Int) + 1) from rfl, ← HLP.out (tosOf zs j) o' m h24 hv, ← HSK.out] at HF
            have HBF := Lib.hid (bel_set (i := m * 3 + 2) (p := g) hb.out hgB (.int .i64 ((j : Int) + 1)))
            clear hv hel HMK HBE HBR HLP HNO h21
            subst h24
            go_wp2_with fail
            refine Calls.mono HMX.out ?_
            rintro e w2 ⟨rfl, rfl⟩
            simp only [sRes]
            go_wp2
            go_roundw
            case rel => exact ⟨j + 1, by omega, by go_num, HF, HBF⟩
            case measure => simp [intOf]; omega
          rw [← HNO.out (tosOf zs j) h21 h24, ← HSK.out] at ho
          clear HMK HBE HBR HLP HNO
          go_wp2
          go_roundw
          case rel => exact ⟨j + 1, by omega, by go_num, ho, hb⟩
          case measure => simp [intOf]; omega
        · obtain rfl : j = k := by omega
          go_wp2
          exact HP.out g c' _ ho.out hb.out
end Go.Proofs.YtnehaidkhpjpbaaDoor
