/- CodeText of impl; the law on CodeText. -/
import Derived.Test.YtgbhihenflooeaaDoorCode
import Derived.Deep.DeepMust
import Derived.Outline
import Derived.Lib.OwnKind
namespace Go.Proofs.YtgbhihenflooeaaDoor
open Go.ChangeShapes Go.WideShapes Go.ChangeAt Go.RowKit
set_option linter.unusedVariables false
theorem own_bel {w w' : World} {B size n : Nat} {e : TypeId} {v : Value} {xs : List Value} (h : w.ownsRow B e size v n xs) (hb : Below w.heap.size w w') : w'.ownsRow B e size v n xs :=
  h.kept (row := none) ⟨hb.os, hb.tape, hb.output, hb.size, fun k hk _ => hb.block k hk⟩ (by cases v.ownBlock <;> simp)
theorem str_u8s (l : List UInt8) : Lib.strCells ⟨l.toArray⟩ = u8s l := by simp [Lib.strCells, u8s]
theorem putTo_one (k : Nat) (h : k ≤ 26) : u8s (putTo (k : Int) 1) = [.int .u8 (k : Int)] := by
  show [Value.int .u8 ((bytN (k : Int) 0).toNat : Int)] = _
  rw [bytN_nat]
  simp
  omega
theorem own_cast {w : World} {B size n m : Nat} {e : TypeId} {v : Value} {xs ys : List Value} (h : w.ownsRow B e size v n xs) (hn : n = m) (hx : xs = ys) : w.ownsRow B e size v m ys := hn ▸ hx ▸ h
def AppPost (W0 : World) (l : List UInt8) (e : Ending) (w' : World) : Prop :=
  ∃ v', e = .returned v' ∧ w'.ownsRow W0.heap.size 5 1 v' l.length (u8s l) ∧ Below W0.heap.size W0 w'
set_option maxHeartbeats 1000000 in
theorem box_keep {w w1 : World} {x y : Value} {t : TypeId} {o : Obj} {row : Option Nat} (g : ((w.alloc (.cells #[x, y] t)).alloc o).grownBy w1 row) (hne : row ≠ some w.heap.size) : w1.cell? ⟨w.heap.size, 0, none⟩ = some x ∧ w1.cell? ⟨w.heap.size, 1, none⟩ = some y := by
  have hk0 : ((w.alloc (.cells #[x, y] t)).alloc o).heap[w.heap.size]? = some (.cells #[x, y] t (0, 0)) := heap_keep (heap_alloc_new w _)
  have hk : w1.heap[w.heap.size]? = some (.cells #[x, y] t (0, 0)) := (g.block w.heap.size (by simp; omega) (fun e => hne e.symm)).trans hk0
  exact ⟨cell_of_row _ _ 0 _ _ _ hk, cell_of_row _ _ 1 _ _ _ hk⟩
theorem own_nb {w : World} {B n p : Nat} {t : TypeId} {v : Value} {xs : List Value} {cs : Array Value} {fz : Nat × Nat} (h : w.ownsRow B 5 1 v n xs) (hp : w.heap[p]? = some (.cells cs t fz)) (ht : t ≠ 5) : v.ownBlock ≠ some p := by
  intro hv
  obtain ⟨c, f, hc⟩ := Lib.ownsRow_kind h p hv
  rw [hp] at hc
  simp only [Option.some.injEq, Obj.cells.injEq] at hc
  exact ht hc.2.1
/-- Rows of other elements than bytes are as they were. -/
def KeepB (w w' : World) : Prop := ∀ (p : Nat) (cs : Array Value) (t : TypeId), t ≠ 5 → w.heap[p]? = some (.cells cs t (0, 0)) → w'.heap[p]? = some (.cells cs t (0, 0))
theorem KeepB.trans {a b c : World} (h : KeepB a b) (g : KeepB b c) : KeepB a c := fun p cs t ht hp => g p cs t ht (h p cs t ht hp)
theorem keepB_bel {w w' : World} (h : Below w.heap.size w w') : KeepB w w' := fun p cs t _ hp => (h.block p (Array.getElem?_eq_some_iff.1 hp).1).trans hp
theorem keepB_grown {w w' : World} {B n : Nat} {v : Value} {xs : List Value} (ho : w.ownsRow B 5 1 v n xs) (g : w.grownBy w' v.ownBlock) : KeepB w w' := fun p cs t ht hp =>
  (g.block p (Array.getElem?_eq_some_iff.1 hp).1 (fun e => own_nb ho hp ht e.symm)).trans hp
def AppPostK (W0 w : World) (l : List UInt8) (e : Ending) (w' : World) : Prop :=
  ∃ v', e = .returned v' ∧ w'.ownsRow W0.heap.size 5 1 v' l.length (u8s l) ∧ Below W0.heap.size W0 w' ∧ KeepB w w'
set_option maxRecDepth 100000 in
theorem appendNumber_k (W0 w : World) (aR bE : Addr) (n size : Int) (hF : fitsN n size = true) (v : Value) (l : List UInt8) (hl : l.length ≤ 2000000)
    (hS : Sent W0 aR bE) (hb : Below W0.heap.size W0 w) (ho : w.ownsRow W0.heap.size 5 1 v l.length (u8s l)) :
    Calls Tryd.prog 76 #[v, .int .i64 n, .int .i64 size] w (AppPostK W0 w (l ++ putTo n size.toNat)) := by
  obtain ⟨i0, hi, hz0, hz1, hz2⟩ := info_parts (show (Tryd.prog.info? 5).map (fun i => (i.zero, i.size, i.bytes)) = some (some (.int .u8 0), 1, 1) by kernel_rfl)
  have HI := Lib.hid (And.intro hi (And.intro hz0 (And.intro hz1 hz2)))
  clear hi hz0 hz1 hz2
  have HS := Lib.hid hS
  have Hb := Lib.hid hb
  have Ho := Lib.hid ho
  have hB := hb.size
  have h4 : size.toNat ≤ 4 := by have := of_decide_eq_true hF; omega
  have p4 := putTo_len n size.toNat
  have HPS := Lib.hid (putS_yes hF)
  have HPC := Lib.hid (putC_yes hF)
  clear hS hb ho hF
  generalize hn : l.length = m at *
  have Hn := Lib.hid hn
  clear hn
  generalize hA : putTo n size.toNat = A at *
  have p4' : A.length ≤ 4 := by omega
  have HAL := Lib.hid p4
  have HA := Lib.hid hA
  clear hA p4
  obtain ⟨H1, H2, H3, H4⟩ := HI.out
  go_enter Tryd.func76, Tryd.ntmps76
  go_wp2_with fail
  refine (putNumber_any n size aR bE _ (HS.out.below Hb.out)).mono ?_
  rintro e w2 ⟨rfl, hb2⟩
  rw [HPS.out, HPC.out]
  have Hb2 := Lib.hid (Hb.out.trans (hb2.mono hB))
  have Ho2 := Lib.hid (own_bel Ho.out hb2)
  have hB2 := Hb2.out.size
  have HK2 := Lib.hid (keepB_bel hb2)
  clear hb2
  go_wp2_with (at_builtin; go_must (refine Lib.wpList_append_own_string _ rfl (.tmp 15) (.tmp 16) _ _ rfl W0.heap.size 5 i0 Tryd.underlying22 Tryd.underlying9 H1 H2 H3 H4 v m _ rfl Ho2.out ⟨A.toArray⟩ rfl (by unfold maxLen; simp [ByteArray.size]; omega) (by simp [ByteArray.size]; omega) hB2 ?_); intro v3 w3 g3 g4 _; have Hb3 := Lib.hid (Hb2.out.grown g4 hB2 (fun q hq => (Ho2.out.lt q hq).1)); have Ho3 := Lib.hid g3; have HK3 := Lib.hid (keepB_grown Ho2.out g4); clear g3 g4)
  go_ret
  exact ⟨v3, rfl, own_cast Ho3.out (by simp [Hn.out, ByteArray.size]) (by rw [str_u8s]; simp [u8s]), Hb3.out, HK2.out.trans HK3.out⟩
theorem appendNumber_any (W0 w : World) (aR bE : Addr) (n size : Int) (hF : fitsN n size = true) (v : Value) (l : List UInt8) (hl : l.length ≤ 2000000)
    (hS : Sent W0 aR bE) (hb : Below W0.heap.size W0 w) (ho : w.ownsRow W0.heap.size 5 1 v l.length (u8s l)) :
    Calls Tryd.prog 76 #[v, .int .i64 n, .int .i64 size] w (AppPost W0 (l ++ putTo n size.toNat)) :=
  (appendNumber_k W0 w aR bE n size hF v l hl hS hb ho).mono fun e w' ⟨v', h1, h2, h3, _⟩ => ⟨v', h1, h2, h3⟩
set_option maxRecDepth 100000 in
theorem appendInstr_any (W0 w : World) (aR bE : Addr) (k : Nat) (y : Int) (h1 : 1 ≤ k) (h2 : k ≤ 26) (hy : -2147483648 ≤ y ∧ y ≤ 2147483647) (v : Value) (l : List UInt8) (hl : l.length ≤ 1000000)
    (hT : OpTab W0) (hS : Sent W0 aR bE) (hb : Below W0.heap.size W0 w) (ho : w.ownsRow W0.heap.size 5 1 v l.length (u8s l)) :
    Calls Tryd.prog 38 #[v, .agg #[.int .i64 (k : Int), .int .i64 y]] w (AppPost W0 (l ++ insB ((k : Int), y))) := by
  obtain ⟨i0, hi, hz0, hz1, hz2⟩ := info_parts (show (Tryd.prog.info? 5).map (fun i => (i.zero, i.size, i.bytes)) = some (some (.int .u8 0), 1, 1) by kernel_rfl)
  have HI := Lib.hid (And.intro hi (And.intro hz0 (And.intro hz1 hz2)))
  clear hi hz0 hz1 hz2
  have HT := Lib.hid hT
  have HS := Lib.hid hS
  have Hb := Lib.hid hb
  have Ho := Lib.hid ho
  have Hlt := Lib.hid (fun q hq => ho.lt q hq)
  have hB := hb.size
  clear hT hS hb ho
  have hA : okB (k : Int) y = okB (k : Int) y := rfl
  clear hA
  have HB := Lib.hid (insB_k k y)
  have HP1 := Lib.hid (putTo_one k h2)
  have p1 := putTo_len (k : Int) 1
  have p4 := putTo_len y 4
  have HF : Hid (fitsN y 4 = true) := Lib.hid (by unfold fitsN; exact decide_eq_true (Or.inr (Or.inr ⟨rfl, by omega, by omega⟩)))
  generalize hn : l.length = n at *
  have Hn := Lib.hid hn
  clear hn
  obtain ⟨H1, H2, H3, H4⟩ := HI.out
  cases hh : opHas k
  all_goals
    have Hh := Lib.hid hh
    have HH := Lib.hid (fun w ht => hh ▸ hasOperand_any k h2 w ht)
    clear hh
    go_enter Tryd.func38, Tryd.ntmps38
    go_wp2_with (at_builtin; go_must (refine wpList_append_own _ rfl (.tmp 5) (.tmp 9) _ rfl W0.heap.size 5 i0 _ 1 1 Tryd.underlying22 H1 H2 H3 H4 rfl (by decide) v n (u8s l) rfl ((Ho.out.alloc _).alloc _) ⟨w.heap.size + 1, 0, none⟩ 1 1 [.int .u8 (k : Int)] rfl rfl (by simpa using cell_one_new (w.alloc (.cells #[.int .i64 (k : Int), .int .i64 y] 39)) (.int .u8 (k : Int)) 5) (by simp [Value.oneCell']) (by unfold maxLen; omega) (by omega) (by simp; omega) ?_); intro v1 w1 g1 g2 _; obtain ⟨c0, c1⟩ := box_keep g2 (fun e => by have := Hlt.out _ e; omega); have Hb1 : Hid (Below W0.heap.size W0 w1) := Lib.hid (((Hb.out.alloc hB _).alloc (by simp; omega) _).grown g2 (by simp; omega) (fun q hq => (Hlt.out q hq).1)); have Ho1 := Lib.hid g1; clear g1 g2)
    go_wp2_with first | (go_at_call 75; refine (HH.out _ (HT.out.below Hb1.out (Nat.le_refl _))).mono ?_; rintro e w' ⟨rfl, rfl⟩) | (go_at_call 76; refine (appendNumber_any W0 _ aR bE y 4 HF.out v1 (l ++ putTo (k : Int) 1) (by rw [List.length_append, Hn.out, putTo_len]; omega) HS.out Hb1.out (own_cast Ho1.out (by rw [List.length_append, Hn.out, putTo_len]) (by rw [← HP1.out]; simp [u8s]))).mono ?_; rintro e w3 ⟨v3, rfl, ho3, hb3⟩; have Hb3 := Lib.hid hb3; have Ho3 := Lib.hid ho3; clear ho3 hb3)
    go_ret
    first
      | exact ⟨v3, rfl, own_cast Ho3.out (by rw [HB.out, Hh.out]; simp [putTo_len, Hn.out]) (by rw [HB.out, Hh.out]; simp [u8s]), Hb3.out⟩
      | exact ⟨v1, rfl, own_cast Ho1.out (by rw [HB.out, Hh.out]; simp [putTo_len, Hn.out]) (by rw [HB.out, Hh.out, ← HP1.out]; simp [u8s]), Hb1.out⟩
set_option maxRecDepth 100000 in
theorem codeText_any (zs : List (Int × Int)) (a : Option Addr) (c : Nat) (hn : zs.length ≤ 1048576) (W0 w : World) (aR bE : Addr) (hT : OpTab W0) (hS : Sent W0 aR bE) (hb : Below W0.heap.size W0 w) (hz : Lies w a (flat insC zs)) :
    Calls Tryd.prog 9 #[.slice a zs.length c] w fun e w' => e = .returned (.tuple #[.string ⟨(codeT zs).toArray⟩, .int .i64 (codeCd zs)]) ∧ Below w.heap.size w w' := by
  by_cases h1 : 4096 < zs.length
  · have H := Lib.hid (code_long h1)
    have HC := Lib.hid (fun w => lengthError_is (if_pos h1) a c w)
    clear hz hT hS hb
    generalize zs.length = n at *
    go_enter Tryd.func9, Tryd.ntmps9
    go_wp2_with (go_at_call 36; refine (HC.out _).mono ?_; rintro e w' ⟨rfl, rfl⟩)
    go_ret2
    exact ⟨ret_sc (by rw [H.out.1]) (by rw [H.out.2]), Below.refl _ _⟩
  by_cases h2 : 40 < zs.length
  · have H := Lib.hid (code_many h1 h2)
    have HC := Lib.hid (fun w => lengthError_is ((if_neg h1).trans (if_pos h2)) a c w)
    clear hz hT hS hb
    generalize zs.length = n at *
    go_enter Tryd.func9, Tryd.ntmps9
    go_wp2_with (go_at_call 36; refine (HC.out _).mono ?_; rintro e w' ⟨rfl, rfl⟩)
    go_ret2
    exact ⟨ret_sc (by rw [H.out.1]) (by rw [H.out.2]), Below.refl _ _⟩
  have Hz := Lib.hid hz
  have HT := Lib.hid (hT.below hb (Nat.le_refl _))
  have HS := Lib.hid (hS.below hb)
  have h40 := Lib.hid h2
  have HC := Lib.hid (fun w => lengthError_is ((if_neg h1).trans (if_neg h2)) a c w)
  clear hz hT hS hb
  generalize hL : zs.length = n at *
  have HL := Lib.hid hL
  clear hL
  go_enter Tryd.func9, Tryd.ntmps9
  go_wp2_with (go_at_call 36; refine (HC.out _).mono ?_; rintro e w' ⟨rfl, rfl⟩)
  go_loopw [5, 15] (fun v i wr => ∃ k : Nat, k ≤ n ∧ i = .int .i64 k ∧ Hid (∀ j, j < k → okB (zs.getD j (0, 0)).1 (zs.getD j (0, 0)).2 = true) ∧ Hid (wr.ownsRow w.heap.size 5 1 v (codeL (zs.take k)).length (u8s (codeL (zs.take k)))) ∧ Hid (Below w.heap.size w wr)) (fun _ i _ => n - (intOf i).toNat)
  case atStart => exact ⟨0, Nat.zero_le _, rfl, Lib.hid (by intro j hj; omega), Lib.hid (World.ownsRow_nil _ _ _ _), Lib.hid (Below.refl _ _)⟩
  case round =>
    obtain ⟨k, hk, rfl, hr, ho, hb⟩ := hrel
    have hB := hb.out.size
    by_cases hlt : k < n
    · obtain ⟨b1, o1, rfl, hb1, hc1⟩ := Hz.out.open (by rw [flat_len insC_len, HL.out]; omega)
      obtain ⟨c0, c1⟩ := ins_at hc1 (i := k) (by rw [HL.out]; exact hlt)
      have d0 := (hb.out.cell (p := ⟨b1, o1 + k * 2, none⟩) hb1).trans c0
      have d1 := (hb.out.cell (p := ⟨b1, o1 + k * 2 + 1, none⟩) hb1).trans c1
      clear hc1 c0 c1
      cases he : okB (zs.getD k (0, 0)).1 (zs.getD k (0, 0)).2
      · have H := Lib.hid (code_bad (zs := zs) (by rw [HL.out]; exact h40.out) (okAll_no (zs := zs) (k := k) (by rw [HL.out]; exact hlt) he))
        have HK := Lib.hid (fun w ht => he ▸ instrOK_any (zs.getD k (0, 0)).1 (zs.getD k (0, 0)).2 w ht)
        clear he
        generalize (zs.getD k (0, 0)).1 = x at *
        generalize (zs.getD k (0, 0)).2 = y at *
        have Ha := Lib.hid (hb.out.alloc hB (.cells #[.int .i64 x, .int .i64 y] 39))
        go_wp2_with (go_at_call 37; refine (HK.out _ (HT.out.below Ha.out (Nat.le_refl _))).mono ?_; rintro e w2 ⟨rfl, hb2⟩; have Hb2 := Lib.hid (Ha.out.trans (hb2.mono Ha.out.size)); clear hb2)
        go_ret2
        exact ⟨ret_sc (by rw [H.out.1]) (by rw [H.out.2]), Hb2.out⟩
      · have hx : Hid (∀ j, j < k + 1 → okB (zs.getD j (0, 0)).1 (zs.getD j (0, 0)).2 = true) := Lib.hid (fun j hj => by
          by_cases e : j = k
          · rw [e]; exact he
          · exact hr.out j (by omega))
        obtain ⟨q, hq, q1, q2, q3, q4⟩ := okB_nat he
        have HK := Lib.hid (fun w ht => he ▸ instrOK_any (zs.getD k (0, 0)).1 (zs.getD k (0, 0)).2 w ht)
        have HTk := Lib.hid (codeL_take zs (k := k) (by rw [HL.out]; exact hlt))
        have hl := codeL_len (zs.take k)
        rw [List.length_take, Nat.min_eq_left (by rw [HL.out]; omega)] at hl
        have hzq : Hid (zs.getD k (0, 0) = ((q : Int), (zs.getD k (0, 0)).2)) := Lib.hid (by rw [← hq])
        rw [hq] at d0 HK
        clear he hq
        have hy : -2147483648 ≤ (zs.getD k (0, 0)).2 ∧ (zs.getD k (0, 0)).2 ≤ 2147483647 := by have := opLo_ge q; have := opHi_le q; omega
        generalize hY : (zs.getD k (0, 0)).2 = y at *
        have HY := Lib.hid hY
        clear hY q3 q4
        have Ha := Lib.hid (hb.out.alloc hB (.cells #[.int .i64 (q : Int), .int .i64 y] 39))
        go_wp2_with fail
        refine (HK.out _ (HT.out.below Ha.out (Nat.le_refl _))).mono ?_
        rintro e w2 ⟨rfl, hb2⟩
        obtain ⟨e0, e1⟩ := keep_two hb2
        have Hb2 := Lib.hid (Ha.out.trans (hb2.mono Ha.out.size))
        have Ho2 := Lib.hid (own_bel (ho.out.alloc _) hb2)
        clear hb2 d0 d1
        go_wp2_with fail
        refine (appendInstr_any w w2 aR bE q y q1 q2 hy _ (codeL (zs.take k)) (by omega) HT.out HS.out Hb2.out Ho2.out).mono ?_
        rintro e w3 ⟨v3, rfl, ho3, hb3⟩
        have Hb3 := Lib.hid hb3
        have Ho3 : Hid (w3.ownsRow w.heap.size 5 1 v3 (codeL (zs.take (k + 1))).length (u8s (codeL (zs.take (k + 1))))) := Lib.hid (own_cast ho3 (by rw [HTk.out, hzq.out]) (by rw [HTk.out, hzq.out]))
        clear ho3 hb3
        go_wp2
        go_roundw
        case rel => exact ⟨k + 1, by omega, by go_num, hx, Ho3, Hb3⟩
        case measure => simp [intOf]; omega
    · obtain rfl : k = n := by omega
      have H := Lib.hid (code_ok (zs := zs) (by rw [HL.out]; exact h40.out) (okAll_yes (zs := zs) (fun j hj => hr.out j (by rw [← HL.out]; exact hj))))
      have ho2 := ho.out
      rw [List.take_of_length_le (by rw [HL.out]; exact Nat.le_refl _)] at ho2
      have hcv := own_str 22 9 5 Tryd.underlying22 Tryd.underlying5 Tryd.underlying9 ho2
      clear ho2
      go_wp2
      go_ret2
      exact ⟨ret_sc (by rw [H.out.1]) (by rw [H.out.2]), hb.out⟩
theorem came_ins {W : World} {a : Option Addr} {n c : Nat} (h : Came Tryd.prog W 47 [.slice a n c]) : n ≤ maxLen ∧ n ≤ c ∧ ∃ zs : List (Int × Int), zs.length = n ∧ Lies W a (flat insC zs) :=
  lies_came insC insC_len (by decide) Tryd.underlying47 cLaw (fun es g => by
    obtain ⟨n, a, e, _, _⟩ := came_lawInstr (cs := es.toArray) (by simpa using g)
    exact ⟨(n, a), by have := congrArg Array.toList e; simpa [insC] using this⟩) h
theorem FnExactCodeText_came (a : Option Addr) (n c : Nat) (W : World) (h : Came Tryd.prog W 47 [.slice a n c]) (hf : OpTab W ∧ ∃ aR bE, Sent W aR bE) :
    Calls Tryd.prog 5 #[.slice a n c] W fun e w' => e = .returned (.bool true) ∧ Below W.heap.size W w' := by
  obtain ⟨hT, aR, bE, hS⟩ := hf
  obtain ⟨hm, _, zs, rfl, hz⟩ := came_ins h
  clear h
  by_cases hn : (zs.length : Int) ≤ 1048576
  · have Hz := Lib.hid hz
    have HT := Lib.hid hT
    have HS := Lib.hid hS
    have HL := Lib.hid hn
    have H0 := Lib.hid (Below.refl W.heap.size W)
    clear hz hT hS hm
    have h0 : (0 : Int) ≤ 1048576 - zs.length := by omega
    have HA := Lib.hid (fun w hz => toInstrS_any zs a c (by omega) w hz)
    have HB := Lib.hid (fun a c w hz => specCodeText_any zs a c (by omega) w hz)
    have HC := Lib.hid (fun a c w hb hz => codeText_any zs a c (by omega) W w aR bE HT.out HS.out hb hz)
    have HE := Lib.hid (fun a b c d w hz hy => eqInstrS_same zs a b c d (by omega) w hz hy)
    generalize hk : zs.length = k at *
    have HK := Lib.hid hk
    clear hk
    go_enter Tryd.func5, Tryd.ntmps5
    go_wp2_with (go_at_call 21; refine (szInstrS_ok a k c 1048576 HL.out (by omega) _).mono ?_; rintro e w' ⟨rfl, rfl⟩)
    refine (HA.out _ Hz.out).mono ?_
    rintro e w1 ⟨rfl, ho1, hb1⟩
    have Ho1 := Lib.hid (lies_own ho1)
    have Hb1 := Lib.hid hb1
    clear ho1 hb1
    go_wp2_with fail
    refine (HB.out _ _ _ Ho1.out).mono ?_
    rintro e w2 ⟨rfl, hb2⟩
    have Hb2 := Lib.hid (Hb1.out.trans (hb2.mono Hb1.out.size))
    clear hb2
    go_wp2_with fail
    refine (HA.out _ (Hz.out.below Hb2.out (Nat.le_refl _))).mono ?_
    rintro e w3 ⟨rfl, ho3, hb3⟩
    have Ho3 := Lib.hid (lies_own ho3)
    have Hb3 := Lib.hid (Hb2.out.trans (hb3.mono Hb2.out.size))
    clear ho3 hb3
    go_wp2_with fail
    refine (HC.out _ _ _ Hb3.out Ho3.out).mono ?_
    rintro e w4 ⟨rfl, hb4⟩
    have Ho4 := Lib.hid (Ho3.out.below hb4 (Nat.le_refl _))
    have Hb4 := Lib.hid (Hb3.out.trans (hb4.mono Hb3.out.size))
    clear hb4
    go_wp2_with fail
    refine (HA.out _ (Hz.out.below Hb4.out (Nat.le_refl _))).mono ?_
    rintro e w5 ⟨rfl, ho5, hb5⟩
    have Ho5 := Lib.hid (lies_own ho5)
    have Ho6 := Lib.hid (Ho4.out.below hb5 (Nat.le_refl _))
    have Hb5 := Lib.hid (Hb4.out.trans (hb5.mono Hb4.out.size))
    clear ho5 hb5
    go_wp2_with fail
    refine (HE.out _ _ _ _ _ Ho6.out Ho5.out).mono ?_
    rintro e w6 ⟨rfl, hb6⟩
    have Hb6 := Lib.hid (Hb5.out.trans (hb6.mono Hb5.out.size))
    clear hb6
    go_wp2
    go_ret
    exact ⟨rfl, Hb6.out⟩
  · have hm' := hm
    unfold maxLen at hm'
    have hn' : (1048576 : Int) < zs.length := by omega
    have HM := Lib.hid hm
    clear hz hT hS hm
    generalize zs.length = k at *
    go_enter Tryd.func5, Tryd.ntmps5
    go_wp2_with (go_at_call 21; refine (szInstrS_no a k c 1048576 HM.out (by omega) (by omega) _).mono ?_; rintro e w' ⟨rfl, rfl⟩)
    go_ret
    exact ⟨rfl, Below.refl _ _⟩
end Go.Proofs.YtgbhihenflooeaaDoor
