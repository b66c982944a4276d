/- spec's OfferEvent, TakeEvent, DropEvents, BalanceOf; NewSource of both. (Written by tools/gen_evu.py.) -/
import Derived.Test.YtgbnoaclklbjbaaEvT
namespace Go.Proofs.Ytgbnoaclklbjbaa
open Go.ChangeShapes Go.WideShapes Go.ChangeAt Go.RowKit
set_option linter.unusedVariables false
theorem offG_len (x : ST) (z : TT) (now : Int) : (offG x z now).1.q.length ≤ x.q.length + 1 := by
  unfold offG
  split
  · simp
  · split <;> simp
set_option maxHeartbeats 4000000 in
theorem specOfferEvent_any (x : ST) (z : TT) (now : Int) (b : Option Addr) (c : Nat) (hm : x.q.length ≤ maxLen) (hf : Fits b x.q.length c) (w : World) (hz : Lies w b (kC x.q)) :
    Calls Try.prog 22 #[sV x b c, tV z, .int .i64 now] w (SrcPost (offF x z now).1 [.int .i64 (offF x z now).2] w) := by
  have HX := Lib.hid (E3.start w (sO x b c 24) (tO z 35) (.cells #[.int .i64 0, .int .i64 0, .int .i64 0, .int .i64 0, .int .i64 0, .int .i64 0, .slice none 0 0] 24))
  have HZ := Lib.hid hz
  have HOK := Lib.hid (fun r (h : sOK x z = r) w hz => ssok_is h b c hm w hz)
  have HF : Hid (offF x z now = if sOK x z = false then (s0, 1) else if tkIn now (max x.l 0) 2147483647 = false then (s0, 4) else offG x z now) := Lib.hid rfl
  have HIN := Lib.hid (@sOK_in x z)
  have HGL := Lib.hid (offG_len x z now)
  have HOF := Lib.hid (fun hx hnow w hz => l10Offer_any x z now b c hx hnow hf w hz)
  generalize offF x z now = R at *
  generalize hP : SrcPost R.1 [.int .i64 R.2] w = POST at *
  clear hz
  by_cases hok : sOK x z = false
  · have HR := Lib.hid (HF.out.trans (if_pos hok))
    rw [HR.out] at hP
    clear HF HIN HOF HGL hf
    obtain ⟨l, a, d, t, s, p, q⟩ := x
    obtain ⟨zk, zp, zd, zi, zq, zr⟩ := z
    dsimp only at *
    have HX : Hid (E3 w (.cells #[.int .i64 l, .int .i64 a, .int .i64 d, .int .i64 t, .int .i64 s, .int .i64 p, .slice b q.length c] 24) (.cells #[.int .i64 zk, .int .i64 zp, .int .i64 zd, .int .i64 zi, .int .i64 zq, .int .i64 zr] 35) (.cells #[.int .i64 0, .int .i64 0, .int .i64 0, .int .i64 0, .int .i64 0, .int .i64 0, .slice none 0 0] 24) (((w.alloc (.cells #[.int .i64 l, .int .i64 a, .int .i64 d, .int .i64 t, .int .i64 s, .int .i64 p, .slice b q.length c] 24)).alloc (.cells #[.int .i64 zk, .int .i64 zp, .int .i64 zd, .int .i64 zi, .int .i64 zq, .int .i64 zr] 35)).alloc (.cells #[.int .i64 0, .int .i64 0, .int .i64 0, .int .i64 0, .int .i64 0, .int .i64 0, .slice none 0 0] 24))) := HX
    have HOK : Hid (∀ r, sOK ⟨l, a, d, t, s, p, q⟩ ⟨zk, zp, zd, zi, zq, zr⟩ = r → ∀ w, Lies w b (kC q) → Calls Try.prog 18 #[.agg #[.int .i64 l, .int .i64 a, .int .i64 d, .int .i64 t, .int .i64 s, .int .i64 p, .slice b q.length c], .agg #[.int .i64 zk, .int .i64 zp, .int .i64 zd, .int .i64 zi, .int .i64 zq, .int .i64 zr]] w fun e w' => e = .returned (.bool r) ∧ Below w.heap.size w w') := HOK
    show Calls Try.prog 22 #[.agg #[.int .i64 l, .int .i64 a, .int .i64 d, .int .i64 t, .int .i64 s, .int .i64 p, .slice b q.length c], .agg #[.int .i64 zk, .int .i64 zp, .int .i64 zd, .int .i64 zi, .int .i64 zq, .int .i64 zr], .int .i64 now] w POST
    go_enter Try.func22, Try.ntmps22
    go_wp2_with fail
    refine Calls.mono (HOK.out _ hok _ (HZ.out.below HX.out.bel (Nat.le_refl _))) ?_
    rintro e w1 ⟨rfl, hb⟩
    have HX := Lib.hid (HX.out.to hb)
    clear hb
    have r0 := cell_of_row w1 (w.heap.size + 2) 0 _ _ _ HX.out.b2
    have f0 := frozen_of_row w1 (w.heap.size + 2) 0 _ _ HX.out.b2
    have r1 := cell_of_row w1 (w.heap.size + 2) 1 _ _ _ HX.out.b2
    have f1 := frozen_of_row w1 (w.heap.size + 2) 1 _ _ HX.out.b2
    have r2 := cell_of_row w1 (w.heap.size + 2) 2 _ _ _ HX.out.b2
    have f2 := frozen_of_row w1 (w.heap.size + 2) 2 _ _ HX.out.b2
    have r3 := cell_of_row w1 (w.heap.size + 2) 3 _ _ _ HX.out.b2
    have f3 := frozen_of_row w1 (w.heap.size + 2) 3 _ _ HX.out.b2
    have r4 := cell_of_row w1 (w.heap.size + 2) 4 _ _ _ HX.out.b2
    have f4 := frozen_of_row w1 (w.heap.size + 2) 4 _ _ HX.out.b2
    have r5 := cell_of_row w1 (w.heap.size + 2) 5 _ _ _ HX.out.b2
    have f5 := frozen_of_row w1 (w.heap.size + 2) 5 _ _ HX.out.b2
    have r6 := cell_of_row w1 (w.heap.size + 2) 6 _ _ _ HX.out.b2
    have f6 := frozen_of_row w1 (w.heap.size + 2) 6 _ _ HX.out.b2
    go_wp2
    refine bodyPost_ret (v := .tuple #[.agg #[.int .i64 0, .int .i64 0, .int .i64 0, .int .i64 0, .int .i64 0, .int .i64 0, .slice none 0 0], .int .i64 1]) (by simp [results, Try.results22, go_sem, r0, r1, r2, r3, r4, r5, r6]) rfl ?_
    rw [← hP]
    exact ⟨none, 0, rfl, World.ownsRow_nil _ _ _ _, ev_bel7 HX.out.bel (by omega) _ _ _ _ _ _ _⟩
  have HF := Lib.hid (HF.out.trans (if_neg hok))
  have hok : sOK x z = true := by simpa using hok
  by_cases hnow : tkIn now (max x.l 0) 2147483647 = false
  · have HR := Lib.hid (HF.out.trans (if_pos hnow))
    have HT := Lib.hid hnow
    rw [HR.out] at hP
    clear HF HIN HOF HR hnow HGL hf
    obtain ⟨l, a, d, t, s, p, q⟩ := x
    obtain ⟨zk, zp, zd, zi, zq, zr⟩ := z
    dsimp only at *
    have HX : Hid (E3 w (.cells #[.int .i64 l, .int .i64 a, .int .i64 d, .int .i64 t, .int .i64 s, .int .i64 p, .slice b q.length c] 24) (.cells #[.int .i64 zk, .int .i64 zp, .int .i64 zd, .int .i64 zi, .int .i64 zq, .int .i64 zr] 35) (.cells #[.int .i64 0, .int .i64 0, .int .i64 0, .int .i64 0, .int .i64 0, .int .i64 0, .slice none 0 0] 24) (((w.alloc (.cells #[.int .i64 l, .int .i64 a, .int .i64 d, .int .i64 t, .int .i64 s, .int .i64 p, .slice b q.length c] 24)).alloc (.cells #[.int .i64 zk, .int .i64 zp, .int .i64 zd, .int .i64 zi, .int .i64 zq, .int .i64 zr] 35)).alloc (.cells #[.int .i64 0, .int .i64 0, .int .i64 0, .int .i64 0, .int .i64 0, .int .i64 0, .slice none 0 0] 24))) := HX
    have HOK : Hid (∀ r, sOK ⟨l, a, d, t, s, p, q⟩ ⟨zk, zp, zd, zi, zq, zr⟩ = r → ∀ w, Lies w b (kC q) → Calls Try.prog 18 #[.agg #[.int .i64 l, .int .i64 a, .int .i64 d, .int .i64 t, .int .i64 s, .int .i64 p, .slice b q.length c], .agg #[.int .i64 zk, .int .i64 zp, .int .i64 zd, .int .i64 zi, .int .i64 zq, .int .i64 zr]] w fun e w' => e = .returned (.bool r) ∧ Below w.heap.size w w') := HOK
    have hmx := evmax
    show Calls Try.prog 22 #[.agg #[.int .i64 l, .int .i64 a, .int .i64 d, .int .i64 t, .int .i64 s, .int .i64 p, .slice b q.length c], .agg #[.int .i64 zk, .int .i64 zp, .int .i64 zd, .int .i64 zi, .int .i64 zq, .int .i64 zr], .int .i64 now] w POST
    go_enter Try.func22, Try.ntmps22
    go_wp2_with fail
    refine Calls.mono (HOK.out _ hok _ (HZ.out.below HX.out.bel (Nat.le_refl _))) ?_
    rintro e w1 ⟨rfl, hb⟩
    have HX := Lib.hid (HX.out.to hb)
    clear hb
    have c0 := cell_of_row w1 w.heap.size 0 _ _ _ HX.out.b0
    have r0 := cell_of_row w1 (w.heap.size + 2) 0 _ _ _ HX.out.b2
    have f0 := frozen_of_row w1 (w.heap.size + 2) 0 _ _ HX.out.b2
    have r1 := cell_of_row w1 (w.heap.size + 2) 1 _ _ _ HX.out.b2
    have f1 := frozen_of_row w1 (w.heap.size + 2) 1 _ _ HX.out.b2
    have r2 := cell_of_row w1 (w.heap.size + 2) 2 _ _ _ HX.out.b2
    have f2 := frozen_of_row w1 (w.heap.size + 2) 2 _ _ HX.out.b2
    have r3 := cell_of_row w1 (w.heap.size + 2) 3 _ _ _ HX.out.b2
    have f3 := frozen_of_row w1 (w.heap.size + 2) 3 _ _ HX.out.b2
    have r4 := cell_of_row w1 (w.heap.size + 2) 4 _ _ _ HX.out.b2
    have f4 := frozen_of_row w1 (w.heap.size + 2) 4 _ _ HX.out.b2
    have r5 := cell_of_row w1 (w.heap.size + 2) 5 _ _ _ HX.out.b2
    have f5 := frozen_of_row w1 (w.heap.size + 2) 5 _ _ HX.out.b2
    have r6 := cell_of_row w1 (w.heap.size + 2) 6 _ _ _ HX.out.b2
    have f6 := frozen_of_row w1 (w.heap.size + 2) 6 _ _ HX.out.b2
    go_wp2_with (go_at_call 43; refine (tkIn_is HT.out _).mono ?_; rintro e w' ⟨rfl, rfl⟩)
    refine bodyPost_ret (v := .tuple #[.agg #[.int .i64 0, .int .i64 0, .int .i64 0, .int .i64 0, .int .i64 0, .int .i64 0, .slice none 0 0], .int .i64 4]) (by simp [results, Try.results22, go_sem, r0, r1, r2, r3, r4, r5, r6]) rfl ?_
    rw [← hP]
    exact ⟨none, 0, rfl, World.ownsRow_nil _ _ _ _, ev_bel7 HX.out.bel (by omega) _ _ _ _ _ _ _⟩
  have HF := Lib.hid (HF.out.trans (if_neg hnow))
  have HT : Hid (tkIn now (max x.l 0) 2147483647 = true) := Lib.hid (by simpa using hnow)
  have hn3 := of_decide_eq_true HT.out
  have hx := HIN.out hok
  have hql : x.q.length ≤ 4 := by have h1 := hx.n; have h2 := tkB_q hx.tk; omega
  have HOF := Lib.hid (HOF.out hx (by omega))
  rw [← HF.out] at HOF HGL
  clear HF HIN hnow hx hn3 hf
  obtain ⟨l, a, d, t, s, p, q⟩ := x
  obtain ⟨zk, zp, zd, zi, zq, zr⟩ := z
  dsimp only at *
  have HX : Hid (E3 w (.cells #[.int .i64 l, .int .i64 a, .int .i64 d, .int .i64 t, .int .i64 s, .int .i64 p, .slice b q.length c] 24) (.cells #[.int .i64 zk, .int .i64 zp, .int .i64 zd, .int .i64 zi, .int .i64 zq, .int .i64 zr] 35) (.cells #[.int .i64 0, .int .i64 0, .int .i64 0, .int .i64 0, .int .i64 0, .int .i64 0, .slice none 0 0] 24) (((w.alloc (.cells #[.int .i64 l, .int .i64 a, .int .i64 d, .int .i64 t, .int .i64 s, .int .i64 p, .slice b q.length c] 24)).alloc (.cells #[.int .i64 zk, .int .i64 zp, .int .i64 zd, .int .i64 zi, .int .i64 zq, .int .i64 zr] 35)).alloc (.cells #[.int .i64 0, .int .i64 0, .int .i64 0, .int .i64 0, .int .i64 0, .int .i64 0, .slice none 0 0] 24))) := HX
  have HOK : Hid (∀ r, sOK ⟨l, a, d, t, s, p, q⟩ ⟨zk, zp, zd, zi, zq, zr⟩ = r → ∀ w, Lies w b (kC q) → Calls Try.prog 18 #[.agg #[.int .i64 l, .int .i64 a, .int .i64 d, .int .i64 t, .int .i64 s, .int .i64 p, .slice b q.length c], .agg #[.int .i64 zk, .int .i64 zp, .int .i64 zd, .int .i64 zi, .int .i64 zq, .int .i64 zr]] w fun e w' => e = .returned (.bool r) ∧ Below w.heap.size w w') := HOK
  have HOF : Hid (∀ w, Lies w b (kC q) → Calls Try.prog 50 #[.agg #[.int .i64 l, .int .i64 a, .int .i64 d, .int .i64 t, .int .i64 s, .int .i64 p, .slice b q.length c], .agg #[.int .i64 zk, .int .i64 zp, .int .i64 zd, .int .i64 zi, .int .i64 zq, .int .i64 zr], .int .i64 now] w (LzPost R.1 [.int .i64 R.2] w)) := HOF
  have hmx := evmax
  show Calls Try.prog 22 #[.agg #[.int .i64 l, .int .i64 a, .int .i64 d, .int .i64 t, .int .i64 s, .int .i64 p, .slice b q.length c], .agg #[.int .i64 zk, .int .i64 zp, .int .i64 zd, .int .i64 zi, .int .i64 zq, .int .i64 zr], .int .i64 now] w POST
  go_enter Try.func22, Try.ntmps22
  go_wp2_with fail
  refine Calls.mono (HOK.out _ hok _ (HZ.out.below HX.out.bel (Nat.le_refl _))) ?_
  rintro e w1 ⟨rfl, hb⟩
  have HX := Lib.hid (HX.out.to hb)
  clear hb
  have c0 := cell_of_row w1 w.heap.size 0 _ _ _ HX.out.b0
  have c1 := cell_of_row w1 w.heap.size 1 _ _ _ HX.out.b0
  have c2 := cell_of_row w1 w.heap.size 2 _ _ _ HX.out.b0
  have c3 := cell_of_row w1 w.heap.size 3 _ _ _ HX.out.b0
  have c4 := cell_of_row w1 w.heap.size 4 _ _ _ HX.out.b0
  have c5 := cell_of_row w1 w.heap.size 5 _ _ _ HX.out.b0
  have c6 := cell_of_row w1 w.heap.size 6 _ _ _ HX.out.b0
  have t0 := cell_of_row w1 (w.heap.size + 1) 0 _ _ _ HX.out.b1
  have t1 := cell_of_row w1 (w.heap.size + 1) 1 _ _ _ HX.out.b1
  have t2 := cell_of_row w1 (w.heap.size + 1) 2 _ _ _ HX.out.b1
  have t3 := cell_of_row w1 (w.heap.size + 1) 3 _ _ _ HX.out.b1
  have t4 := cell_of_row w1 (w.heap.size + 1) 4 _ _ _ HX.out.b1
  have t5 := cell_of_row w1 (w.heap.size + 1) 5 _ _ _ HX.out.b1
  have r0 := cell_of_row w1 (w.heap.size + 2) 0 _ _ _ HX.out.b2
  have f0 := frozen_of_row w1 (w.heap.size + 2) 0 _ _ HX.out.b2
  have r1 := cell_of_row w1 (w.heap.size + 2) 1 _ _ _ HX.out.b2
  have f1 := frozen_of_row w1 (w.heap.size + 2) 1 _ _ HX.out.b2
  have r2 := cell_of_row w1 (w.heap.size + 2) 2 _ _ _ HX.out.b2
  have f2 := frozen_of_row w1 (w.heap.size + 2) 2 _ _ HX.out.b2
  have r3 := cell_of_row w1 (w.heap.size + 2) 3 _ _ _ HX.out.b2
  have f3 := frozen_of_row w1 (w.heap.size + 2) 3 _ _ HX.out.b2
  have r4 := cell_of_row w1 (w.heap.size + 2) 4 _ _ _ HX.out.b2
  have f4 := frozen_of_row w1 (w.heap.size + 2) 4 _ _ HX.out.b2
  have r5 := cell_of_row w1 (w.heap.size + 2) 5 _ _ _ HX.out.b2
  have f5 := frozen_of_row w1 (w.heap.size + 2) 5 _ _ HX.out.b2
  have r6 := cell_of_row w1 (w.heap.size + 2) 6 _ _ _ HX.out.b2
  have f6 := frozen_of_row w1 (w.heap.size + 2) 6 _ _ HX.out.b2
  go_wp2_with (go_at_call 43; refine (tkIn_is HT.out _).mono ?_; rintro e w' ⟨rfl, rfl⟩)
  clear hmx c0 c1 c2 c3 c4 c5 c6 t0 t1 t2 t3 t4 t5 r0 r1 r2 r3 r4 r5 r6 f0 f1 f2 f3 f4 f5 f6
  refine Calls.mono (HOF.out _ (HZ.out.below HX.out.bel (Nat.le_refl _))) ?_
  rintro e w2 ⟨b1, c1, rfl, hl1, hf1, hb1⟩
  have HX := Lib.hid (HX.out.to hb1)
  have HL1 := Lib.hid hl1
  have HF1 := Lib.hid hf1
  clear hl1 hf1 hb1
  obtain ⟨⟨l', a', d', t', s', p', q'⟩, code⟩ := R
  dsimp only at *
  have HOW := Lib.hid (l10Own_any ⟨l', a', d', t', s', p', q'⟩ b1 c1 (by have := HGL.out; show q'.length ≤ _; omega) HF1.out _ (HL1.out.below (dbox w2 (.cells #[.int .i64 l', .int .i64 a', .int .i64 d', .int .i64 t', .int .i64 s', .int .i64 p', .slice b1 q'.length c1] 24)) (Nat.le_refl _)))
  have HX := Lib.hid (HX.out.to (dbox w2 (.cells #[.int .i64 l', .int .i64 a', .int .i64 d', .int .i64 t', .int .i64 s', .int .i64 p', .slice b1 q'.length c1] 24)))
  have HLT := Lib.hid HX.out.lt
  go_wp2_with fail
  refine Calls.mono HOW.out ?_
  rintro e w3 ⟨b2, c2, rfl, ho, hb3⟩
  have HO := Lib.hid ho
  have HX := Lib.hid (HX.out.to hb3)
  clear ho hb3
  have r0 := cell_of_row w3 (w.heap.size + 2) 0 _ _ _ HX.out.b2
  have f0 := frozen_of_row w3 (w.heap.size + 2) 0 _ _ HX.out.b2
  have r1 := cell_of_row w3 (w.heap.size + 2) 1 _ _ _ HX.out.b2
  have f1 := frozen_of_row w3 (w.heap.size + 2) 1 _ _ HX.out.b2
  have r2 := cell_of_row w3 (w.heap.size + 2) 2 _ _ _ HX.out.b2
  have f2 := frozen_of_row w3 (w.heap.size + 2) 2 _ _ HX.out.b2
  have r3 := cell_of_row w3 (w.heap.size + 2) 3 _ _ _ HX.out.b2
  have f3 := frozen_of_row w3 (w.heap.size + 2) 3 _ _ HX.out.b2
  have r4 := cell_of_row w3 (w.heap.size + 2) 4 _ _ _ HX.out.b2
  have f4 := frozen_of_row w3 (w.heap.size + 2) 4 _ _ HX.out.b2
  have r5 := cell_of_row w3 (w.heap.size + 2) 5 _ _ _ HX.out.b2
  have f5 := frozen_of_row w3 (w.heap.size + 2) 5 _ _ HX.out.b2
  have r6 := cell_of_row w3 (w.heap.size + 2) 6 _ _ _ HX.out.b2
  have f6 := frozen_of_row w3 (w.heap.size + 2) 6 _ _ HX.out.b2
  go_wp2
  refine bodyPost_ret (v := .tuple #[.agg #[.int .i64 l', .int .i64 a', .int .i64 d', .int .i64 t', .int .i64 s', .int .i64 p', .slice b2 q'.length c2], .int .i64 code]) (by simp [results, Try.results22, go_sem, r0, r1, r2, r3, r4, r5, r6]) rfl ?_
  rw [← hP]
  refine ⟨b2, c2, rfl, own_base (own_set7 HO.out HLT.out _ _ _ _ _ _ _) (by have := HLT.out; omega), ev_bel7 HX.out.bel (by omega) _ _ _ _ _ _ _⟩
set_option maxHeartbeats 4000000 in
theorem specTakeEvent_any (x : ST) (z : TT) (b : Option Addr) (c : Nat) (hm : x.q.length ≤ maxLen) (hf : Fits b x.q.length c) (w : World) (hz : Lies w b (kC x.q)) :
    Calls Try.prog 24 #[sV x b c, tV z] w (SrcPost (takF x z).1 [.int .i64 (takF x z).2.1, .int .i64 (takF x z).2.2] w) := by
  have HX := Lib.hid (E3.start w (sO x b c 24) (tO z 35) (.cells #[.int .i64 0, .int .i64 0, .int .i64 0, .int .i64 0, .int .i64 0, .int .i64 0, .slice none 0 0] 24))
  have HZ := Lib.hid hz
  have HOK := Lib.hid (fun r (h : sOK x z = r) w hz => ssok_is h b c hm w hz)
  have HIN := Lib.hid (@sOK_in x z)
  have HF0 := Lib.hid (@takF_no x z)
  have HF1 := Lib.hid (@takF_nil x z)
  have HF2 := Lib.hid (fun a r => @takF_cons x z a r)
  have HTK := Lib.hid (fun a r hq hn w hz => l10Take_any x a r b c hq hn hf w hz)
  have HOX := Lib.hid (fun hn w hz => l10Own_any x b c hn hf w hz)
  generalize takF x z = R at *
  generalize hP : SrcPost R.1 [.int .i64 R.2.1, .int .i64 R.2.2] w = POST at *
  clear hz
  by_cases hok : sOK x z = false
  · have HR := Lib.hid (HF0.out hok)
    rw [HR.out] at hP
    clear HF0 HF1 HF2 HIN HTK HOX hf
    obtain ⟨l, a, d, t, s, p, q⟩ := x
    obtain ⟨zk, zp, zd, zi, zq, zr⟩ := z
    dsimp only at *
    have HX : Hid (E3 w (.cells #[.int .i64 l, .int .i64 a, .int .i64 d, .int .i64 t, .int .i64 s, .int .i64 p, .slice b q.length c] 24) (.cells #[.int .i64 zk, .int .i64 zp, .int .i64 zd, .int .i64 zi, .int .i64 zq, .int .i64 zr] 35) (.cells #[.int .i64 0, .int .i64 0, .int .i64 0, .int .i64 0, .int .i64 0, .int .i64 0, .slice none 0 0] 24) (((w.alloc (.cells #[.int .i64 l, .int .i64 a, .int .i64 d, .int .i64 t, .int .i64 s, .int .i64 p, .slice b q.length c] 24)).alloc (.cells #[.int .i64 zk, .int .i64 zp, .int .i64 zd, .int .i64 zi, .int .i64 zq, .int .i64 zr] 35)).alloc (.cells #[.int .i64 0, .int .i64 0, .int .i64 0, .int .i64 0, .int .i64 0, .int .i64 0, .slice none 0 0] 24))) := HX
    have HOK : Hid (∀ r, sOK ⟨l, a, d, t, s, p, q⟩ ⟨zk, zp, zd, zi, zq, zr⟩ = r → ∀ w, Lies w b (kC q) → Calls Try.prog 18 #[.agg #[.int .i64 l, .int .i64 a, .int .i64 d, .int .i64 t, .int .i64 s, .int .i64 p, .slice b q.length c], .agg #[.int .i64 zk, .int .i64 zp, .int .i64 zd, .int .i64 zi, .int .i64 zq, .int .i64 zr]] w fun e w' => e = .returned (.bool r) ∧ Below w.heap.size w w') := HOK
    show Calls Try.prog 24 #[.agg #[.int .i64 l, .int .i64 a, .int .i64 d, .int .i64 t, .int .i64 s, .int .i64 p, .slice b q.length c], .agg #[.int .i64 zk, .int .i64 zp, .int .i64 zd, .int .i64 zi, .int .i64 zq, .int .i64 zr]] w POST
    go_enter Try.func24, Try.ntmps24
    go_wp2_with fail
    refine Calls.mono (HOK.out _ hok _ (HZ.out.below HX.out.bel (Nat.le_refl _))) ?_
    rintro e w1 ⟨rfl, hb⟩
    have HX := Lib.hid (HX.out.to hb)
    clear hb
    have r0 := cell_of_row w1 (w.heap.size + 2) 0 _ _ _ HX.out.b2
    have f0 := frozen_of_row w1 (w.heap.size + 2) 0 _ _ HX.out.b2
    have r1 := cell_of_row w1 (w.heap.size + 2) 1 _ _ _ HX.out.b2
    have f1 := frozen_of_row w1 (w.heap.size + 2) 1 _ _ HX.out.b2
    have r2 := cell_of_row w1 (w.heap.size + 2) 2 _ _ _ HX.out.b2
    have f2 := frozen_of_row w1 (w.heap.size + 2) 2 _ _ HX.out.b2
    have r3 := cell_of_row w1 (w.heap.size + 2) 3 _ _ _ HX.out.b2
    have f3 := frozen_of_row w1 (w.heap.size + 2) 3 _ _ HX.out.b2
    have r4 := cell_of_row w1 (w.heap.size + 2) 4 _ _ _ HX.out.b2
    have f4 := frozen_of_row w1 (w.heap.size + 2) 4 _ _ HX.out.b2
    have r5 := cell_of_row w1 (w.heap.size + 2) 5 _ _ _ HX.out.b2
    have f5 := frozen_of_row w1 (w.heap.size + 2) 5 _ _ HX.out.b2
    have r6 := cell_of_row w1 (w.heap.size + 2) 6 _ _ _ HX.out.b2
    have f6 := frozen_of_row w1 (w.heap.size + 2) 6 _ _ HX.out.b2
    go_wp2
    refine bodyPost_ret (v := .tuple #[.agg #[.int .i64 0, .int .i64 0, .int .i64 0, .int .i64 0, .int .i64 0, .int .i64 0, .slice none 0 0], .int .i64 0, .int .i64 1]) (by simp [results, Try.results24, go_sem, r0, r1, r2, r3, r4, r5, r6]) rfl ?_
    rw [← hP]
    exact ⟨none, 0, rfl, World.ownsRow_nil _ _ _ _, ev_bel7 HX.out.bel (by omega) _ _ _ _ _ _ _⟩
  have hok : sOK x z = true := by simpa using hok
  have HG1 := Lib.hid (HF1.out hok)
  have HG2 := Lib.hid (fun a r => HF2.out a r hok)
  have hql : x.q.length ≤ 4 := by have h1 := (HIN.out hok).n; have h2 := tkB_q (HIN.out hok).tk; omega
  have HTK := Lib.hid (fun a r hq w hz => HTK.out a r hq hql w hz)
  have HOX := Lib.hid (fun w hz => HOX.out (by omega) w hz)
  clear HIN HF0 HF1 HF2 hf
  rcases hq : x.q with _ | ⟨aa, r⟩
  · have HR := Lib.hid (HG1.out hq)
    have hq0 : (x.q.length : Int) = 0 := by rw [hq]; rfl
    clear hq HG1 HG2
    rw [HR.out] at hP
    obtain ⟨l, a, d, t, s, p, q⟩ := x
    obtain ⟨zk, zp, zd, zi, zq, zr⟩ := z
    dsimp only at *
    have HX : Hid (E3 w (.cells #[.int .i64 l, .int .i64 a, .int .i64 d, .int .i64 t, .int .i64 s, .int .i64 p, .slice b q.length c] 24) (.cells #[.int .i64 zk, .int .i64 zp, .int .i64 zd, .int .i64 zi, .int .i64 zq, .int .i64 zr] 35) (.cells #[.int .i64 0, .int .i64 0, .int .i64 0, .int .i64 0, .int .i64 0, .int .i64 0, .slice none 0 0] 24) (((w.alloc (.cells #[.int .i64 l, .int .i64 a, .int .i64 d, .int .i64 t, .int .i64 s, .int .i64 p, .slice b q.length c] 24)).alloc (.cells #[.int .i64 zk, .int .i64 zp, .int .i64 zd, .int .i64 zi, .int .i64 zq, .int .i64 zr] 35)).alloc (.cells #[.int .i64 0, .int .i64 0, .int .i64 0, .int .i64 0, .int .i64 0, .int .i64 0, .slice none 0 0] 24))) := HX
    have HOK : Hid (∀ r, sOK ⟨l, a, d, t, s, p, q⟩ ⟨zk, zp, zd, zi, zq, zr⟩ = r → ∀ w, Lies w b (kC q) → Calls Try.prog 18 #[.agg #[.int .i64 l, .int .i64 a, .int .i64 d, .int .i64 t, .int .i64 s, .int .i64 p, .slice b q.length c], .agg #[.int .i64 zk, .int .i64 zp, .int .i64 zd, .int .i64 zi, .int .i64 zq, .int .i64 zr]] w fun e w' => e = .returned (.bool r) ∧ Below w.heap.size w w') := HOK
    have HTK : Hid (∀ aa r, q = aa :: r → ∀ w, Lies w b (kC q) → Calls Try.prog 53 #[.agg #[.int .i64 l, .int .i64 a, .int .i64 d, .int .i64 t, .int .i64 s, .int .i64 p, .slice b q.length c]] w (LzPost ⟨l, a, d, t, s, p, r⟩ [.int .i64 aa] w)) := HTK
    have HOX : Hid (∀ w, Lies w b (kC q) → Calls Try.prog 51 #[.agg #[.int .i64 l, .int .i64 a, .int .i64 d, .int .i64 t, .int .i64 s, .int .i64 p, .slice b q.length c]] w (OwPost ⟨l, a, d, t, s, p, q⟩ w)) := HOX
    have hn0 : ((q.length : Int) == 0) = true := by simpa using hq0
    clear hq0
    show Calls Try.prog 24 #[.agg #[.int .i64 l, .int .i64 a, .int .i64 d, .int .i64 t, .int .i64 s, .int .i64 p, .slice b q.length c], .agg #[.int .i64 zk, .int .i64 zp, .int .i64 zd, .int .i64 zi, .int .i64 zq, .int .i64 zr]] w POST
    go_enter Try.func24, Try.ntmps24
    go_wp2_with fail
    refine Calls.mono (HOK.out _ hok _ (HZ.out.below HX.out.bel (Nat.le_refl _))) ?_
    rintro e w1 ⟨rfl, hb⟩
    have HX := Lib.hid (HX.out.to hb)
    clear hb
    have c0 := cell_of_row w1 w.heap.size 0 _ _ _ HX.out.b0
    have c1 := cell_of_row w1 w.heap.size 1 _ _ _ HX.out.b0
    have c2 := cell_of_row w1 w.heap.size 2 _ _ _ HX.out.b0
    have c3 := cell_of_row w1 w.heap.size 3 _ _ _ HX.out.b0
    have c4 := cell_of_row w1 w.heap.size 4 _ _ _ HX.out.b0
    have c5 := cell_of_row w1 w.heap.size 5 _ _ _ HX.out.b0
    have c6 := cell_of_row w1 w.heap.size 6 _ _ _ HX.out.b0
    have r0 := cell_of_row w1 (w.heap.size + 2) 0 _ _ _ HX.out.b2
    have f0 := frozen_of_row w1 (w.heap.size + 2) 0 _ _ HX.out.b2
    have r1 := cell_of_row w1 (w.heap.size + 2) 1 _ _ _ HX.out.b2
    have f1 := frozen_of_row w1 (w.heap.size + 2) 1 _ _ HX.out.b2
    have r2 := cell_of_row w1 (w.heap.size + 2) 2 _ _ _ HX.out.b2
    have f2 := frozen_of_row w1 (w.heap.size + 2) 2 _ _ HX.out.b2
    have r3 := cell_of_row w1 (w.heap.size + 2) 3 _ _ _ HX.out.b2
    have f3 := frozen_of_row w1 (w.heap.size + 2) 3 _ _ HX.out.b2
    have r4 := cell_of_row w1 (w.heap.size + 2) 4 _ _ _ HX.out.b2
    have f4 := frozen_of_row w1 (w.heap.size + 2) 4 _ _ HX.out.b2
    have r5 := cell_of_row w1 (w.heap.size + 2) 5 _ _ _ HX.out.b2
    have f5 := frozen_of_row w1 (w.heap.size + 2) 5 _ _ HX.out.b2
    have r6 := cell_of_row w1 (w.heap.size + 2) 6 _ _ _ HX.out.b2
    have f6 := frozen_of_row w1 (w.heap.size + 2) 6 _ _ HX.out.b2
    go_wp2_with fail
    clear c0 c1 c2 c3 c4 c5 c6 r0 r1 r2 r3 r4 r5 r6 f0 f1 f2 f3 f4 f5 f6
    have HLT := Lib.hid HX.out.lt
    refine Calls.mono (HOX.out _ (HZ.out.below HX.out.bel (Nat.le_refl _))) ?_
    rintro e w3 ⟨b2, c2, rfl, ho, hb3⟩
    have HO := Lib.hid ho
    have HX := Lib.hid (HX.out.to hb3)
    clear ho hb3
    have r0 := cell_of_row w3 (w.heap.size + 2) 0 _ _ _ HX.out.b2
    have f0 := frozen_of_row w3 (w.heap.size + 2) 0 _ _ HX.out.b2
    have r1 := cell_of_row w3 (w.heap.size + 2) 1 _ _ _ HX.out.b2
    have f1 := frozen_of_row w3 (w.heap.size + 2) 1 _ _ HX.out.b2
    have r2 := cell_of_row w3 (w.heap.size + 2) 2 _ _ _ HX.out.b2
    have f2 := frozen_of_row w3 (w.heap.size + 2) 2 _ _ HX.out.b2
    have r3 := cell_of_row w3 (w.heap.size + 2) 3 _ _ _ HX.out.b2
    have f3 := frozen_of_row w3 (w.heap.size + 2) 3 _ _ HX.out.b2
    have r4 := cell_of_row w3 (w.heap.size + 2) 4 _ _ _ HX.out.b2
    have f4 := frozen_of_row w3 (w.heap.size + 2) 4 _ _ HX.out.b2
    have r5 := cell_of_row w3 (w.heap.size + 2) 5 _ _ _ HX.out.b2
    have f5 := frozen_of_row w3 (w.heap.size + 2) 5 _ _ HX.out.b2
    have r6 := cell_of_row w3 (w.heap.size + 2) 6 _ _ _ HX.out.b2
    have f6 := frozen_of_row w3 (w.heap.size + 2) 6 _ _ HX.out.b2
    go_wp2
    refine bodyPost_ret (v := .tuple #[.agg #[.int .i64 l, .int .i64 a, .int .i64 d, .int .i64 t, .int .i64 s, .int .i64 p, .slice b2 q.length c2], .int .i64 0, .int .i64 5]) (by simp [results, Try.results24, go_sem, r0, r1, r2, r3, r4, r5, r6]) rfl ?_
    rw [← hP]
    refine ⟨b2, c2, rfl, own_base (own_set7 HO.out HLT.out _ _ _ _ _ _ _) (by have := HLT.out; omega), ev_bel7 HX.out.bel (by omega) _ _ _ _ _ _ _⟩
  · have HR := Lib.hid (HG2.out aa r hq)
    have HQ := Lib.hid hq
    have hq0 : ¬ (x.q.length : Int) = 0 := by rw [hq]; simp; omega
    have hrl : r.length ≤ 4 := by rw [hq] at hql; simp at hql; omega
    clear hq HG1 HG2
    rw [HR.out] at hP
    dsimp only at hP
    obtain ⟨l, a, d, t, s, p, q⟩ := x
    obtain ⟨zk, zp, zd, zi, zq, zr⟩ := z
    dsimp only at *
    have HX : Hid (E3 w (.cells #[.int .i64 l, .int .i64 a, .int .i64 d, .int .i64 t, .int .i64 s, .int .i64 p, .slice b q.length c] 24) (.cells #[.int .i64 zk, .int .i64 zp, .int .i64 zd, .int .i64 zi, .int .i64 zq, .int .i64 zr] 35) (.cells #[.int .i64 0, .int .i64 0, .int .i64 0, .int .i64 0, .int .i64 0, .int .i64 0, .slice none 0 0] 24) (((w.alloc (.cells #[.int .i64 l, .int .i64 a, .int .i64 d, .int .i64 t, .int .i64 s, .int .i64 p, .slice b q.length c] 24)).alloc (.cells #[.int .i64 zk, .int .i64 zp, .int .i64 zd, .int .i64 zi, .int .i64 zq, .int .i64 zr] 35)).alloc (.cells #[.int .i64 0, .int .i64 0, .int .i64 0, .int .i64 0, .int .i64 0, .int .i64 0, .slice none 0 0] 24))) := HX
    have HOK : Hid (∀ r, sOK ⟨l, a, d, t, s, p, q⟩ ⟨zk, zp, zd, zi, zq, zr⟩ = r → ∀ w, Lies w b (kC q) → Calls Try.prog 18 #[.agg #[.int .i64 l, .int .i64 a, .int .i64 d, .int .i64 t, .int .i64 s, .int .i64 p, .slice b q.length c], .agg #[.int .i64 zk, .int .i64 zp, .int .i64 zd, .int .i64 zi, .int .i64 zq, .int .i64 zr]] w fun e w' => e = .returned (.bool r) ∧ Below w.heap.size w w') := HOK
    have HTK : Hid (∀ aa r, q = aa :: r → ∀ w, Lies w b (kC q) → Calls Try.prog 53 #[.agg #[.int .i64 l, .int .i64 a, .int .i64 d, .int .i64 t, .int .i64 s, .int .i64 p, .slice b q.length c]] w (LzPost ⟨l, a, d, t, s, p, r⟩ [.int .i64 aa] w)) := HTK
    have HOX : Hid (∀ w, Lies w b (kC q) → Calls Try.prog 51 #[.agg #[.int .i64 l, .int .i64 a, .int .i64 d, .int .i64 t, .int .i64 s, .int .i64 p, .slice b q.length c]] w (OwPost ⟨l, a, d, t, s, p, q⟩ w)) := HOX
    have hn0 : ((q.length : Int) == 0) = false := by simpa using hq0
    clear hq0
    show Calls Try.prog 24 #[.agg #[.int .i64 l, .int .i64 a, .int .i64 d, .int .i64 t, .int .i64 s, .int .i64 p, .slice b q.length c], .agg #[.int .i64 zk, .int .i64 zp, .int .i64 zd, .int .i64 zi, .int .i64 zq, .int .i64 zr]] w POST
    go_enter Try.func24, Try.ntmps24
    go_wp2_with fail
    refine Calls.mono (HOK.out _ hok _ (HZ.out.below HX.out.bel (Nat.le_refl _))) ?_
    rintro e w1 ⟨rfl, hb⟩
    have HX := Lib.hid (HX.out.to hb)
    clear hb
    have c0 := cell_of_row w1 w.heap.size 0 _ _ _ HX.out.b0
    have c1 := cell_of_row w1 w.heap.size 1 _ _ _ HX.out.b0
    have c2 := cell_of_row w1 w.heap.size 2 _ _ _ HX.out.b0
    have c3 := cell_of_row w1 w.heap.size 3 _ _ _ HX.out.b0
    have c4 := cell_of_row w1 w.heap.size 4 _ _ _ HX.out.b0
    have c5 := cell_of_row w1 w.heap.size 5 _ _ _ HX.out.b0
    have c6 := cell_of_row w1 w.heap.size 6 _ _ _ HX.out.b0
    have r0 := cell_of_row w1 (w.heap.size + 2) 0 _ _ _ HX.out.b2
    have f0 := frozen_of_row w1 (w.heap.size + 2) 0 _ _ HX.out.b2
    have r1 := cell_of_row w1 (w.heap.size + 2) 1 _ _ _ HX.out.b2
    have f1 := frozen_of_row w1 (w.heap.size + 2) 1 _ _ HX.out.b2
    have r2 := cell_of_row w1 (w.heap.size + 2) 2 _ _ _ HX.out.b2
    have f2 := frozen_of_row w1 (w.heap.size + 2) 2 _ _ HX.out.b2
    have r3 := cell_of_row w1 (w.heap.size + 2) 3 _ _ _ HX.out.b2
    have f3 := frozen_of_row w1 (w.heap.size + 2) 3 _ _ HX.out.b2
    have r4 := cell_of_row w1 (w.heap.size + 2) 4 _ _ _ HX.out.b2
    have f4 := frozen_of_row w1 (w.heap.size + 2) 4 _ _ HX.out.b2
    have r5 := cell_of_row w1 (w.heap.size + 2) 5 _ _ _ HX.out.b2
    have f5 := frozen_of_row w1 (w.heap.size + 2) 5 _ _ HX.out.b2
    have r6 := cell_of_row w1 (w.heap.size + 2) 6 _ _ _ HX.out.b2
    have f6 := frozen_of_row w1 (w.heap.size + 2) 6 _ _ HX.out.b2
    go_wp2_with fail
    clear c0 c1 c2 c3 c4 c5 c6 r0 r1 r2 r3 r4 r5 r6 f0 f1 f2 f3 f4 f5 f6
    refine Calls.mono (HTK.out aa r HQ.out _ (HZ.out.below HX.out.bel (Nat.le_refl _))) ?_
    rintro e w2 ⟨b1, c1, rfl, hl1, hf1, hb1⟩
    have HX := Lib.hid (HX.out.to hb1)
    have HOW := Lib.hid (l10Own_any ⟨l, a, d, t, s, p, r⟩ b1 c1 (by show r.length ≤ _; omega) hf1 _ (hl1.below (dbox w2 (.cells #[.int .i64 l, .int .i64 a, .int .i64 d, .int .i64 t, .int .i64 s, .int .i64 p, .slice b1 r.length c1] 24)) (Nat.le_refl _)))
    have HX := Lib.hid (HX.out.to (dbox w2 (.cells #[.int .i64 l, .int .i64 a, .int .i64 d, .int .i64 t, .int .i64 s, .int .i64 p, .slice b1 r.length c1] 24)))
    have HLT := Lib.hid HX.out.lt
    clear hl1 hf1 hb1
    go_wp2_with fail
    refine Calls.mono HOW.out ?_
    rintro e w3 ⟨b2, c2, rfl, ho, hb3⟩
    have HO := Lib.hid ho
    have HX := Lib.hid (HX.out.to hb3)
    clear ho hb3
    have r0 := cell_of_row w3 (w.heap.size + 2) 0 _ _ _ HX.out.b2
    have f0 := frozen_of_row w3 (w.heap.size + 2) 0 _ _ HX.out.b2
    have r1 := cell_of_row w3 (w.heap.size + 2) 1 _ _ _ HX.out.b2
    have f1 := frozen_of_row w3 (w.heap.size + 2) 1 _ _ HX.out.b2
    have r2 := cell_of_row w3 (w.heap.size + 2) 2 _ _ _ HX.out.b2
    have f2 := frozen_of_row w3 (w.heap.size + 2) 2 _ _ HX.out.b2
    have r3 := cell_of_row w3 (w.heap.size + 2) 3 _ _ _ HX.out.b2
    have f3 := frozen_of_row w3 (w.heap.size + 2) 3 _ _ HX.out.b2
    have r4 := cell_of_row w3 (w.heap.size + 2) 4 _ _ _ HX.out.b2
    have f4 := frozen_of_row w3 (w.heap.size + 2) 4 _ _ HX.out.b2
    have r5 := cell_of_row w3 (w.heap.size + 2) 5 _ _ _ HX.out.b2
    have f5 := frozen_of_row w3 (w.heap.size + 2) 5 _ _ HX.out.b2
    have r6 := cell_of_row w3 (w.heap.size + 2) 6 _ _ _ HX.out.b2
    have f6 := frozen_of_row w3 (w.heap.size + 2) 6 _ _ HX.out.b2
    go_wp2
    refine bodyPost_ret (v := .tuple #[.agg #[.int .i64 l, .int .i64 a, .int .i64 d, .int .i64 t, .int .i64 s, .int .i64 p, .slice b2 r.length c2], .int .i64 aa, .int .i64 0]) (by simp [results, Try.results24, go_sem, r0, r1, r2, r3, r4, r5, r6]) rfl ?_
    rw [← hP]
    refine ⟨b2, c2, rfl, own_base (own_set7 HO.out HLT.out _ _ _ _ _ _ _) (by have := HLT.out; omega), ev_bel7 HX.out.bel (by omega) _ _ _ _ _ _ _⟩
set_option maxHeartbeats 4000000 in
theorem specDropEvents_any (x : ST) (z : TT) (rn : Bool) (b : Option Addr) (c : Nat) (hm : x.q.length ≤ maxLen) (w : World) (hz : Lies w b (kC x.q)) :
    Calls Try.prog 26 #[sV x b c, tV z, .bool rn] w (SrcPost (drpF x z rn).1 [.int .i64 (drpF x z rn).2] w) := by
  have HX := Lib.hid (E3.start w (sO x b c 24) (tO z 35) (.cells #[.int .i64 0, .int .i64 0, .int .i64 0, .int .i64 0, .int .i64 0, .int .i64 0, .slice none 0 0] 24))
  have HZ := Lib.hid hz
  have HOK := Lib.hid (fun r (h : sOK x z = r) w hz => ssok_is h b c hm w hz)
  have HIN := Lib.hid (@sOK_in x z)
  have HF : Hid (drpF x z rn = if sOK x z = false then (s0, 1) else (⟨x.l, x.a, x.d, x.t, x.s, min (x.p + (x.q.length + bitE rn)) 2147483647, []⟩, 0)) := Lib.hid rfl
  have HDR := Lib.hid (fun hp hn w => l10Drop_any x rn b c hp hn w)
  generalize drpF x z rn = R at *
  generalize hP : SrcPost R.1 [.int .i64 R.2] w = POST at *
  clear hz
  by_cases hok : sOK x z = false
  · have HR := Lib.hid (HF.out.trans (if_pos hok))
    rw [HR.out] at hP
    clear HF HIN HDR
    obtain ⟨l, a, d, t, s, p, q⟩ := x
    obtain ⟨zk, zp, zd, zi, zq, zr⟩ := z
    dsimp only at *
    have HX : Hid (E3 w (.cells #[.int .i64 l, .int .i64 a, .int .i64 d, .int .i64 t, .int .i64 s, .int .i64 p, .slice b q.length c] 24) (.cells #[.int .i64 zk, .int .i64 zp, .int .i64 zd, .int .i64 zi, .int .i64 zq, .int .i64 zr] 35) (.cells #[.int .i64 0, .int .i64 0, .int .i64 0, .int .i64 0, .int .i64 0, .int .i64 0, .slice none 0 0] 24) (((w.alloc (.cells #[.int .i64 l, .int .i64 a, .int .i64 d, .int .i64 t, .int .i64 s, .int .i64 p, .slice b q.length c] 24)).alloc (.cells #[.int .i64 zk, .int .i64 zp, .int .i64 zd, .int .i64 zi, .int .i64 zq, .int .i64 zr] 35)).alloc (.cells #[.int .i64 0, .int .i64 0, .int .i64 0, .int .i64 0, .int .i64 0, .int .i64 0, .slice none 0 0] 24))) := HX
    have HOK : Hid (∀ r, sOK ⟨l, a, d, t, s, p, q⟩ ⟨zk, zp, zd, zi, zq, zr⟩ = r → ∀ w, Lies w b (kC q) → Calls Try.prog 18 #[.agg #[.int .i64 l, .int .i64 a, .int .i64 d, .int .i64 t, .int .i64 s, .int .i64 p, .slice b q.length c], .agg #[.int .i64 zk, .int .i64 zp, .int .i64 zd, .int .i64 zi, .int .i64 zq, .int .i64 zr]] w fun e w' => e = .returned (.bool r) ∧ Below w.heap.size w w') := HOK
    show Calls Try.prog 26 #[.agg #[.int .i64 l, .int .i64 a, .int .i64 d, .int .i64 t, .int .i64 s, .int .i64 p, .slice b q.length c], .agg #[.int .i64 zk, .int .i64 zp, .int .i64 zd, .int .i64 zi, .int .i64 zq, .int .i64 zr], .bool rn] w POST
    go_enter Try.func26, Try.ntmps26
    go_wp2_with fail
    refine Calls.mono (HOK.out _ hok _ (HZ.out.below HX.out.bel (Nat.le_refl _))) ?_
    rintro e w1 ⟨rfl, hb⟩
    have HX := Lib.hid (HX.out.to hb)
    clear hb
    have r0 := cell_of_row w1 (w.heap.size + 2) 0 _ _ _ HX.out.b2
    have f0 := frozen_of_row w1 (w.heap.size + 2) 0 _ _ HX.out.b2
    have r1 := cell_of_row w1 (w.heap.size + 2) 1 _ _ _ HX.out.b2
    have f1 := frozen_of_row w1 (w.heap.size + 2) 1 _ _ HX.out.b2
    have r2 := cell_of_row w1 (w.heap.size + 2) 2 _ _ _ HX.out.b2
    have f2 := frozen_of_row w1 (w.heap.size + 2) 2 _ _ HX.out.b2
    have r3 := cell_of_row w1 (w.heap.size + 2) 3 _ _ _ HX.out.b2
    have f3 := frozen_of_row w1 (w.heap.size + 2) 3 _ _ HX.out.b2
    have r4 := cell_of_row w1 (w.heap.size + 2) 4 _ _ _ HX.out.b2
    have f4 := frozen_of_row w1 (w.heap.size + 2) 4 _ _ HX.out.b2
    have r5 := cell_of_row w1 (w.heap.size + 2) 5 _ _ _ HX.out.b2
    have f5 := frozen_of_row w1 (w.heap.size + 2) 5 _ _ HX.out.b2
    have r6 := cell_of_row w1 (w.heap.size + 2) 6 _ _ _ HX.out.b2
    have f6 := frozen_of_row w1 (w.heap.size + 2) 6 _ _ HX.out.b2
    go_wp2
    refine bodyPost_ret (v := .tuple #[.agg #[.int .i64 0, .int .i64 0, .int .i64 0, .int .i64 0, .int .i64 0, .int .i64 0, .slice none 0 0], .int .i64 1]) (by simp [results, Try.results26, go_sem, r0, r1, r2, r3, r4, r5, r6]) rfl ?_
    rw [← hP]
    exact ⟨none, 0, rfl, World.ownsRow_nil _ _ _ _, ev_bel7 HX.out.bel (by omega) _ _ _ _ _ _ _⟩
  have HR := Lib.hid (HF.out.trans (if_neg hok))
  rw [HR.out] at hP
  have hok : sOK x z = true := by simpa using hok
  have HDR := Lib.hid (HDR.out (HIN.out hok).p (by have h1 := (HIN.out hok).n; have h2 := tkB_q (HIN.out hok).tk; omega))
  clear HF HIN HR
  obtain ⟨l, a, d, t, s, p, q⟩ := x
  obtain ⟨zk, zp, zd, zi, zq, zr⟩ := z
  dsimp only at *
  have HX : Hid (E3 w (.cells #[.int .i64 l, .int .i64 a, .int .i64 d, .int .i64 t, .int .i64 s, .int .i64 p, .slice b q.length c] 24) (.cells #[.int .i64 zk, .int .i64 zp, .int .i64 zd, .int .i64 zi, .int .i64 zq, .int .i64 zr] 35) (.cells #[.int .i64 0, .int .i64 0, .int .i64 0, .int .i64 0, .int .i64 0, .int .i64 0, .slice none 0 0] 24) (((w.alloc (.cells #[.int .i64 l, .int .i64 a, .int .i64 d, .int .i64 t, .int .i64 s, .int .i64 p, .slice b q.length c] 24)).alloc (.cells #[.int .i64 zk, .int .i64 zp, .int .i64 zd, .int .i64 zi, .int .i64 zq, .int .i64 zr] 35)).alloc (.cells #[.int .i64 0, .int .i64 0, .int .i64 0, .int .i64 0, .int .i64 0, .int .i64 0, .slice none 0 0] 24))) := HX
  have HOK : Hid (∀ r, sOK ⟨l, a, d, t, s, p, q⟩ ⟨zk, zp, zd, zi, zq, zr⟩ = r → ∀ w, Lies w b (kC q) → Calls Try.prog 18 #[.agg #[.int .i64 l, .int .i64 a, .int .i64 d, .int .i64 t, .int .i64 s, .int .i64 p, .slice b q.length c], .agg #[.int .i64 zk, .int .i64 zp, .int .i64 zd, .int .i64 zi, .int .i64 zq, .int .i64 zr]] w fun e w' => e = .returned (.bool r) ∧ Below w.heap.size w w') := HOK
  have HDR : Hid (∀ w, Calls Try.prog 57 #[.agg #[.int .i64 l, .int .i64 a, .int .i64 d, .int .i64 t, .int .i64 s, .int .i64 p, .slice b q.length c], .bool rn] w (LyPost ⟨l, a, d, t, s, min (p + ((q.length : Int) + bitE rn)) 2147483647, []⟩ w)) := HDR
  generalize min (p + ((q.length : Int) + bitE rn)) 2147483647 = pn at *
  show Calls Try.prog 26 #[.agg #[.int .i64 l, .int .i64 a, .int .i64 d, .int .i64 t, .int .i64 s, .int .i64 p, .slice b q.length c], .agg #[.int .i64 zk, .int .i64 zp, .int .i64 zd, .int .i64 zi, .int .i64 zq, .int .i64 zr], .bool rn] w POST
  go_enter Try.func26, Try.ntmps26
  go_wp2_with fail
  refine Calls.mono (HOK.out _ hok _ (HZ.out.below HX.out.bel (Nat.le_refl _))) ?_
  rintro e w1 ⟨rfl, hb⟩
  have HX := Lib.hid (HX.out.to hb)
  clear hb
  have c0 := cell_of_row w1 w.heap.size 0 _ _ _ HX.out.b0
  have c1 := cell_of_row w1 w.heap.size 1 _ _ _ HX.out.b0
  have c2 := cell_of_row w1 w.heap.size 2 _ _ _ HX.out.b0
  have c3 := cell_of_row w1 w.heap.size 3 _ _ _ HX.out.b0
  have c4 := cell_of_row w1 w.heap.size 4 _ _ _ HX.out.b0
  have c5 := cell_of_row w1 w.heap.size 5 _ _ _ HX.out.b0
  have c6 := cell_of_row w1 w.heap.size 6 _ _ _ HX.out.b0
  have r0 := cell_of_row w1 (w.heap.size + 2) 0 _ _ _ HX.out.b2
  have f0 := frozen_of_row w1 (w.heap.size + 2) 0 _ _ HX.out.b2
  have r1 := cell_of_row w1 (w.heap.size + 2) 1 _ _ _ HX.out.b2
  have f1 := frozen_of_row w1 (w.heap.size + 2) 1 _ _ HX.out.b2
  have r2 := cell_of_row w1 (w.heap.size + 2) 2 _ _ _ HX.out.b2
  have f2 := frozen_of_row w1 (w.heap.size + 2) 2 _ _ HX.out.b2
  have r3 := cell_of_row w1 (w.heap.size + 2) 3 _ _ _ HX.out.b2
  have f3 := frozen_of_row w1 (w.heap.size + 2) 3 _ _ HX.out.b2
  have r4 := cell_of_row w1 (w.heap.size + 2) 4 _ _ _ HX.out.b2
  have f4 := frozen_of_row w1 (w.heap.size + 2) 4 _ _ HX.out.b2
  have r5 := cell_of_row w1 (w.heap.size + 2) 5 _ _ _ HX.out.b2
  have f5 := frozen_of_row w1 (w.heap.size + 2) 5 _ _ HX.out.b2
  have r6 := cell_of_row w1 (w.heap.size + 2) 6 _ _ _ HX.out.b2
  have f6 := frozen_of_row w1 (w.heap.size + 2) 6 _ _ HX.out.b2
  go_wp2_with fail
  clear c0 c1 c2 c3 c4 c5 c6 r0 r1 r2 r3 r4 r5 r6 f0 f1 f2 f3 f4 f5 f6
  refine Calls.mono (HDR.out _) ?_
  rintro e w2 ⟨b1, c1, rfl, hl1, hf1, hb1⟩
  have HX := Lib.hid (HX.out.to hb1)
  have HOW := Lib.hid (l10Own_any ⟨l, a, d, t, s, pn, []⟩ b1 c1 (Nat.zero_le _) hf1 _ hl1)
  have HLT := Lib.hid HX.out.lt
  clear hl1 hf1 hb1
  go_wp2_with fail
  refine Calls.mono HOW.out ?_
  rintro e w3 ⟨b2, c2, rfl, ho, hb3⟩
  have HO := Lib.hid ho
  have HX := Lib.hid (HX.out.to hb3)
  clear ho hb3
  have r0 := cell_of_row w3 (w.heap.size + 2) 0 _ _ _ HX.out.b2
  have f0 := frozen_of_row w3 (w.heap.size + 2) 0 _ _ HX.out.b2
  have r1 := cell_of_row w3 (w.heap.size + 2) 1 _ _ _ HX.out.b2
  have f1 := frozen_of_row w3 (w.heap.size + 2) 1 _ _ HX.out.b2
  have r2 := cell_of_row w3 (w.heap.size + 2) 2 _ _ _ HX.out.b2
  have f2 := frozen_of_row w3 (w.heap.size + 2) 2 _ _ HX.out.b2
  have r3 := cell_of_row w3 (w.heap.size + 2) 3 _ _ _ HX.out.b2
  have f3 := frozen_of_row w3 (w.heap.size + 2) 3 _ _ HX.out.b2
  have r4 := cell_of_row w3 (w.heap.size + 2) 4 _ _ _ HX.out.b2
  have f4 := frozen_of_row w3 (w.heap.size + 2) 4 _ _ HX.out.b2
  have r5 := cell_of_row w3 (w.heap.size + 2) 5 _ _ _ HX.out.b2
  have f5 := frozen_of_row w3 (w.heap.size + 2) 5 _ _ HX.out.b2
  have r6 := cell_of_row w3 (w.heap.size + 2) 6 _ _ _ HX.out.b2
  have f6 := frozen_of_row w3 (w.heap.size + 2) 6 _ _ HX.out.b2
  go_wp2
  refine bodyPost_ret (v := .tuple #[.agg #[.int .i64 l, .int .i64 a, .int .i64 d, .int .i64 t, .int .i64 s, .int .i64 pn, .slice b2 0 c2], .int .i64 0]) (by simp [results, Try.results26, go_sem, r0, r1, r2, r3, r4, r5, r6]) rfl ?_
  rw [← hP]
  refine ⟨b2, c2, rfl, own_base (own_set7 HO.out HLT.out _ _ _ _ _ _ _) (by have := HLT.out; omega), ev_bel7 HX.out.bel (by omega) _ _ _ _ _ _ _⟩
set_option maxHeartbeats 1000000 in
theorem specBalanceOf_any (x : ST) (z : TT) (b : Option Addr) (c : Nat) (hm : x.q.length ≤ maxLen) (w : World) (hz : Lies w b (kC x.q)) :
    Calls Try.prog 36 #[sV x b c, tV z] w (BalPost (balF x z) w) := by
  have HX := Lib.hid (Bx2.start w (sO x b c 24) (tO z 35))
  have HZ := Lib.hid hz
  have HOK := Lib.hid (fun r (h : sOK x z = r) w hz => ssok_is h b c hm w hz)
  have HIN := Lib.hid (@sOK_in x z)
  have HF : Hid (balF x z = if sOK x z = false then (0, 1) else (x.a - x.d - x.t - x.s - x.p - x.q.length, 0)) := Lib.hid rfl
  have HBL := Lib.hid (fun ha hd ht hs hp hn w => l10Balance_any x b c ha hd ht hs hp hn w)
  generalize balF x z = R at *
  generalize hP : BalPost R w = POST at *
  clear hz
  by_cases hok : sOK x z = false
  · have HR := Lib.hid (HF.out.trans (if_pos hok))
    rw [HR.out] at hP
    clear HF HIN HBL
    obtain ⟨l, a, d, t, s, p, q⟩ := x
    obtain ⟨zk, zp, zd, zi, zq, zr⟩ := z
    dsimp only at *
    have HX : Hid (Bx2 w (.cells #[.int .i64 l, .int .i64 a, .int .i64 d, .int .i64 t, .int .i64 s, .int .i64 p, .slice b q.length c] 24) (.cells #[.int .i64 zk, .int .i64 zp, .int .i64 zd, .int .i64 zi, .int .i64 zq, .int .i64 zr] 35) ((w.alloc (.cells #[.int .i64 l, .int .i64 a, .int .i64 d, .int .i64 t, .int .i64 s, .int .i64 p, .slice b q.length c] 24)).alloc (.cells #[.int .i64 zk, .int .i64 zp, .int .i64 zd, .int .i64 zi, .int .i64 zq, .int .i64 zr] 35))) := HX
    have HOK : Hid (∀ r, sOK ⟨l, a, d, t, s, p, q⟩ ⟨zk, zp, zd, zi, zq, zr⟩ = r → ∀ w, Lies w b (kC q) → Calls Try.prog 18 #[.agg #[.int .i64 l, .int .i64 a, .int .i64 d, .int .i64 t, .int .i64 s, .int .i64 p, .slice b q.length c], .agg #[.int .i64 zk, .int .i64 zp, .int .i64 zd, .int .i64 zi, .int .i64 zq, .int .i64 zr]] w fun e w' => e = .returned (.bool r) ∧ Below w.heap.size w w') := HOK
    show Calls Try.prog 36 #[.agg #[.int .i64 l, .int .i64 a, .int .i64 d, .int .i64 t, .int .i64 s, .int .i64 p, .slice b q.length c], .agg #[.int .i64 zk, .int .i64 zp, .int .i64 zd, .int .i64 zi, .int .i64 zq, .int .i64 zr]] w POST
    go_enter Try.func36, Try.ntmps36
    go_wp2_with fail
    refine Calls.mono (HOK.out _ hok _ (HZ.out.below HX.out.bel (Nat.le_refl _))) ?_
    rintro e w1 ⟨rfl, hb⟩
    have HX := Lib.hid (HX.out.to hb)
    clear hb
    go_wp2
    rw [← hP]
    exact ⟨rfl, HX.out.bel⟩
  have HR := Lib.hid (HF.out.trans (if_neg hok))
  rw [HR.out] at hP
  have hok : sOK x z = true := by simpa using hok
  have HBL := Lib.hid (HBL.out (HIN.out hok).a (HIN.out hok).d (HIN.out hok).t (HIN.out hok).s (HIN.out hok).p (by have h1 := (HIN.out hok).n; have h2 := tkB_q (HIN.out hok).tk; omega))
  clear HF HIN HR
  obtain ⟨l, a, d, t, s, p, q⟩ := x
  obtain ⟨zk, zp, zd, zi, zq, zr⟩ := z
  dsimp only at *
  have HX : Hid (Bx2 w (.cells #[.int .i64 l, .int .i64 a, .int .i64 d, .int .i64 t, .int .i64 s, .int .i64 p, .slice b q.length c] 24) (.cells #[.int .i64 zk, .int .i64 zp, .int .i64 zd, .int .i64 zi, .int .i64 zq, .int .i64 zr] 35) ((w.alloc (.cells #[.int .i64 l, .int .i64 a, .int .i64 d, .int .i64 t, .int .i64 s, .int .i64 p, .slice b q.length c] 24)).alloc (.cells #[.int .i64 zk, .int .i64 zp, .int .i64 zd, .int .i64 zi, .int .i64 zq, .int .i64 zr] 35))) := HX
  have HOK : Hid (∀ r, sOK ⟨l, a, d, t, s, p, q⟩ ⟨zk, zp, zd, zi, zq, zr⟩ = r → ∀ w, Lies w b (kC q) → Calls Try.prog 18 #[.agg #[.int .i64 l, .int .i64 a, .int .i64 d, .int .i64 t, .int .i64 s, .int .i64 p, .slice b q.length c], .agg #[.int .i64 zk, .int .i64 zp, .int .i64 zd, .int .i64 zi, .int .i64 zq, .int .i64 zr]] w fun e w' => e = .returned (.bool r) ∧ Below w.heap.size w w') := HOK
  have HBL : Hid (∀ w, Calls Try.prog 60 #[.agg #[.int .i64 l, .int .i64 a, .int .i64 d, .int .i64 t, .int .i64 s, .int .i64 p, .slice b q.length c]] w fun e w' => e = .returned (.int .i64 (a - d - t - s - p - q.length)) ∧ Below w.heap.size w w') := HBL
  generalize hbv : a - d - t - s - p - (q.length : Int) = bv at *
  clear hbv
  show Calls Try.prog 36 #[.agg #[.int .i64 l, .int .i64 a, .int .i64 d, .int .i64 t, .int .i64 s, .int .i64 p, .slice b q.length c], .agg #[.int .i64 zk, .int .i64 zp, .int .i64 zd, .int .i64 zi, .int .i64 zq, .int .i64 zr]] w POST
  go_enter Try.func36, Try.ntmps36
  go_wp2_with fail
  refine Calls.mono (HOK.out _ hok _ (HZ.out.below HX.out.bel (Nat.le_refl _))) ?_
  rintro e w1 ⟨rfl, hb⟩
  have HX := Lib.hid (HX.out.to hb)
  clear hb
  have c0 := cell_of_row w1 w.heap.size 0 _ _ _ HX.out.box
  have c1 := cell_of_row w1 w.heap.size 1 _ _ _ HX.out.box
  have c2 := cell_of_row w1 w.heap.size 2 _ _ _ HX.out.box
  have c3 := cell_of_row w1 w.heap.size 3 _ _ _ HX.out.box
  have c4 := cell_of_row w1 w.heap.size 4 _ _ _ HX.out.box
  have c5 := cell_of_row w1 w.heap.size 5 _ _ _ HX.out.box
  have c6 := cell_of_row w1 w.heap.size 6 _ _ _ HX.out.box
  go_wp2_with fail
  refine Calls.mono (HBL.out _) ?_
  rintro e w2 ⟨rfl, hb2⟩
  have HX := Lib.hid (HX.out.to hb2)
  clear hb2 c0 c1 c2 c3 c4 c5 c6
  go_wp2
  rw [← hP]
  exact ⟨rfl, HX.out.bel⟩
def s9 : ST := ⟨-1, 0, 0, 0, 0, 0, []⟩
theorem implNewSource_any (w : World) : Calls Try.prog 13 #[] w fun e w' => e = .returned (sV s9 none 0) ∧ Below w.heap.size w w' := by
  go_enter Try.func13, Try.ntmps13
  go_wp2
  refine bodyPost_ret (v := sV s9 none 0) (by simp [results, Try.results13, go_sem, s9]) rfl ⟨rfl, ?_⟩
  exact dbox _ _
theorem specNewSource_any (w : World) : Calls Try.prog 12 #[] w fun e w' => (∃ g, e = .returned (sV s9 (some ⟨g, 0, none⟩) 0)) ∧ Below w.heap.size w w' := by
  go_enter Try.func12, Try.ntmps12
  go_wp2
  refine bodyPost_ret (v := sV s9 (some ⟨w.heap.size + 1, 0, none⟩) 0) (by simp [results, Try.results12, go_sem, s9]) rfl ⟨⟨_, rfl⟩, ?_⟩
  exact ((Below.refl w.heap.size w).alloc (Nat.le_refl _) _).alloc (by simp) _
end Go.Proofs.Ytgbnoaclklbjbaa
