/- Reading a program from a payload: as a plain function. -/
import Derived.Test.YtmpppfibeoghaaaGreatDoorImgT
import Derived.Test.YtmpppfibeoghaaaGreatDoorTake
import Derived.Test.YtmpppfibeoghaaaGreatDoorRdBack
namespace Go.Proofs.YtmpppfibeoghaaaGreatDoor
open Go.ChangeShapes Go.WideShapes Go.ChangeAt Go.RowKit Go.PlainAid
set_option linter.unusedVariables false
/-- Where a reader is, and the code of its first failure. -/
structure RS where
  p : Nat
  c : Int
def failP (c : Int) (s : RS) : RS := if s.c = 0 then ⟨s.p, c⟩ else s
def offP (t : ByteArray) (k : Nat) (s : RS) : Prop := s.c ≠ 0 ∨ t.size < s.p + k
def numP (t : ByteArray) (k : Nat) (s : RS) : Int := if s.c ≠ 0 ∨ t.size < s.p + k then 0 else takeF t s.p k
def numS (t : ByteArray) (k : Nat) (s : RS) : RS := if s.c ≠ 0 ∨ t.size < s.p + k then failP 16 s else ⟨s.p + k, 0⟩
def cntP (t : ByteArray) (most : Int) (s : RS) : Int := if numP t 1 s < 0 ∨ most < numP t 1 s then 0 else numP t 1 s
def cntS (t : ByteArray) (most : Int) (s : RS) : RS := if numP t 1 s < 0 ∨ most < numP t 1 s then failP 6 (numS t 1 s) else numS t 1 s
theorem cnt_rng {t : ByteArray} {most : Int} {s : RS} (h : 0 ≤ most) : 0 ≤ cntP t most s ∧ cntP t most s ≤ most := by unfold cntP; split <;> omega
theorem numS_le {t : ByteArray} {k : Nat} {s : RS} (h : s.p ≤ t.size) : (numS t k s).p ≤ t.size := by
  unfold numS failP
  split
  · split <;> exact h
  · rename_i h1
    simp only
    omega
theorem failP_p (c : Int) (s : RS) : (failP c s).p = s.p := by unfold failP; split <;> rfl
theorem cntS_le {t : ByteArray} {most : Int} {s : RS} (h : s.p ≤ t.size) : (cntS t most s).p ≤ t.size := by
  unfold cntS
  split
  · rw [failP_p]; exact numS_le h
  · exact numS_le h
/-- A list of things read one after another. -/
def manyP {α : Type} (f : RS → α) (g : RS → RS) : Nat → RS → List α
  | 0, _ => []
  | n + 1, s => f s :: manyP f g n (g s)
def manyS (g : RS → RS) : Nat → RS → RS
  | 0, s => s
  | n + 1, s => manyS g n (g s)
theorem manyP_len {α : Type} (f : RS → α) (g : RS → RS) : ∀ (n : Nat) (s : RS), (manyP f g n s).length = n
  | 0, _ => rfl
  | n + 1, s => by simp [manyP, manyP_len f g n]
theorem manyP_snoc {α : Type} (f : RS → α) (g : RS → RS) : ∀ (n : Nat) (s : RS), manyP f g (n + 1) s = manyP f g n s ++ [f (manyS g n s)]
  | 0, s => rfl
  | n + 1, s => by
    rw [manyP, manyP_snoc f g n (g s)]
    rfl
theorem manyS_snoc (g : RS → RS) : ∀ (n : Nat) (s : RS), manyS g (n + 1) s = g (manyS g n s)
  | 0, s => rfl
  | n + 1, s => by
    rw [manyS, manyS_snoc g n (g s)]
    rfl
theorem manyS_le {t : ByteArray} {g : RS → RS} (hg : ∀ s : RS, s.p ≤ t.size → (g s).p ≤ t.size) : ∀ (n : Nat) (s : RS), s.p ≤ t.size → (manyS g n s).p ≤ t.size
  | 0, s, h => h
  | n + 1, s, h => manyS_le hg n (g s) (hg s h)
def codOff (t : ByteArray) (s : RS) : Prop := (numS t 2 s).c ≠ 0 ∨ numP t 2 s < 0 ∨ t.size < (numS t 2 s).p + (numP t 2 s).toNat
def codT (t : ByteArray) (s : RS) : ByteArray := t.extract (numS t 2 s).p ((numS t 2 s).p + (numP t 2 s).toNat)
open Classical in
noncomputable def codP (t : ByteArray) (s : RS) : List Ins := if codOff t s then [] else (readF (codT t s)).1
open Classical in
noncomputable def codS (t : ByteArray) (s : RS) : RS := if codOff t s then failP 16 (numS t 2 s) else ⟨(numS t 2 s).p + (numP t 2 s).toNat, (readF (codT t s)).2⟩
theorem codS_le {t : ByteArray} {s : RS} (h : s.p ≤ t.size) : (codS t s).p ≤ t.size := by
  unfold codS
  split
  · rw [failP_p]; exact numS_le h
  · rename_i h1
    unfold codOff at h1
    simp only
    omega
def tkS1 (t : ByteArray) (s : RS) : RS := numS t 1 s
def tkS2 (t : ByteArray) (s : RS) : RS := numS t 4 (tkS1 t s)
def tkS3 (t : ByteArray) (s : RS) : RS := numS t 4 (tkS2 t s)
def tkS4 (t : ByteArray) (s : RS) : RS := numS t 1 (tkS3 t s)
def tkS5 (t : ByteArray) (s : RS) : RS := numS t 1 (tkS4 t s)
def tkS6 (t : ByteArray) (s : RS) : RS := numS t 1 (tkS5 t s)
def tskP (t : ByteArray) (s : RS) : TT := ⟨numP t 1 s, numP t 4 (tkS1 t s), numP t 4 (tkS2 t s), numP t 1 (tkS3 t s), numP t 1 (tkS4 t s), numP t 1 (tkS5 t s)⟩
theorem tkS6_le {t : ByteArray} {s : RS} (h : s.p ≤ t.size) : (tkS6 t s).p ≤ t.size := numS_le (numS_le (numS_le (numS_le (numS_le (numS_le h)))))
/-- Pin i of a number. -/
def pinB (n : Int) (i : Nat) : Bool := n / 2 ^ i % 2 == 1
def pins (n : Int) : List Bool := (List.range 8).map (pinB n)
theorem pins_len (n : Int) : (pins n).length = 8 := by simp [pins]
def stA (t : ByteArray) : RS := cntS t 8 ⟨0, 0⟩
def nA (t : ByteArray) : Nat := (cntP t 8 ⟨0, 0⟩).toNat
def stB (t : ByteArray) : RS := manyS (numS t 1) (nA t) (stA t)
def stC (t : ByteArray) : RS := cntS t 6 (stB t)
def nC (t : ByteArray) : Nat := (cntP t 6 (stB t)).toNat
noncomputable def stD (t : ByteArray) : RS := manyS (codS t) (nC t) (stC t)
noncomputable def stE (t : ByteArray) : RS := cntS t 5 (stD t)
noncomputable def nE (t : ByteArray) : Nat := (cntP t 5 (stD t)).toNat
noncomputable def stF (t : ByteArray) : RS := manyS (tkS6 t) (nE t) (stE t)
noncomputable def stG (t : ByteArray) : RS := numS t 1 (stF t)
noncomputable def pgmP (t : ByteArray) : Pgm := ⟨manyP (numP t 1) (numS t 1) (nA t) (stA t), manyP (codP t) (codS t) (nC t) (stC t), manyP (tskP t) (tkS6 t) (nE t) (stE t), pins (numP t 1 (stF t))⟩
def pgm0 : Pgm := ⟨[], [], [], []⟩
noncomputable def rdCode (t : ByteArray) : Int := if (stG t).c ≠ 0 then (stG t).c else if (stG t).p ≠ t.size then 8 else (ckF (pgmP t)).2
noncomputable def rdPgm (t : ByteArray) : Pgm := if rdCode t = 0 then pgmP t else pgm0
/-- impl's reader, and spec's. -/
abbrev rO (t : ByteArray) (s : RS) : Obj := .cells #[.string (t.extract s.p t.size), .int .i64 s.c] 58
abbrev sO (t : ByteArray) (s : RS) : Obj := .cells #[.string t, .int .i64 (s.p : Int), .int .i64 s.c] 120
theorem rdg_bel {R : Nat} {w w' : World} (hb : Below w.heap.size w w') : w.grownBy w' (some R) := ⟨hb.os, hb.tape, hb.output, hb.size, fun k hk _ => hb.block k hk⟩
theorem rdg_set {R i : Nat} (w : World) (u : Value) : w.grownBy (w.setCell ⟨R, i, none⟩ u) (some R) :=
  ⟨rfl, rfl, rfl, by simp [World.setCell], fun k _ hr => Below.heap_setCell w ⟨R, i, none⟩ u k (fun e => hr (by simp at e; rw [e]))⟩
end Go.Proofs.YtmpppfibeoghaaaGreatDoor
namespace Go.Proofs.YtmpppfibeoghaaaGreatDoor
open Go.ChangeShapes Go.WideShapes Go.ChangeAt Go.RowKit Go.PlainAid
set_option linter.unusedVariables false
theorem two_c {X : World} {b : Nat} {v0 v1 : Value} {t : TypeId} (h : X.heap[b]? = some (.cells #[v0, v1] t)) : X.cell? ⟨b, 0, none⟩ = some v0 ∧ X.cell? ⟨b, 1, none⟩ = some v1 ∧ X.frozen? ⟨b, 0, none⟩ = false ∧ X.frozen? ⟨b, 1, none⟩ = false :=
  ⟨cell_of_row X b 0 _ _ _ h, cell_of_row X b 1 _ _ _ h, frozen_of_row X b 0 _ _ h, frozen_of_row X b 1 _ _ h⟩
def RdEnd (R : Nat) (t : ByteArray) (s : RS) (w : World) (v : Value) (e : Ending) (w' : World) : Prop := e = .returned v ∧ w'.heap[R]? = some (rO t s) ∧ w.grownBy w' (some R)
theorem fail_any (R : Nat) (t : ByteArray) (s : RS) (c : Int) (w : World) (h : w.heap[R]? = some (rO t s)) :
    Calls Tryz.prog 93 #[.pointer (some ⟨R, 0, none⟩), .int .i64 c] w (RdEnd R t (failP c s) w (.tuple #[])) := by
  obtain ⟨c0, c1, f0, f1⟩ := two_c h
  have H := Lib.hid h
  clear h
  by_cases h0 : s.c = 0
  · have HF : Hid (failP c s = ⟨s.p, c⟩) := Lib.hid (if_pos h0)
    rw [h0] at c1
    have HW : Hid ((w.setCell ⟨R, 1, none⟩ (.int .i64 c)).heap[R]? = some (rO t ⟨s.p, c⟩)) := Lib.hid (wk_set H.out 1 (.int .i64 c))
    have HG := Lib.hid (rdg_set (R := R) (i := 1) w (.int .i64 c))
    clear h0
    go_enter Tryz.func93, Tryz.ntmps93
    go_wp2
    go_end0
    exact ⟨rfl, by rw [HF.out]; exact HW.out, HG.out⟩
  · have HF : Hid (failP c s = s) := Lib.hid (if_neg h0)
    have hb : (s.c == 0) = false := by rw [beq_eq_false_iff_ne]; exact h0
    have HG := Lib.hid (World.grownBy.refl w (some R))
    clear h0
    generalize s.c = sc at *
    go_enter Tryz.func93, Tryz.ntmps93
    go_wp2
    go_end0
    exact ⟨rfl, by rw [HF.out]; exact H.out, HG.out⟩
/-- take: the bytes, and the state behind. -/
def tooP (t : ByteArray) (n : Int) (s : RS) : Prop := n < 0 ∨ (t.size : Int) < s.p + n
instance decToo (t : ByteArray) (n : Int) (s : RS) : Decidable (tooP t n s) := by unfold tooP; infer_instance
theorem exz_size {t : ByteArray} {p q : Nat} (h : q ≤ t.size) : (t.extract p q).size = q - p := by rw [ByteArray.size_extract]; omega
theorem ext_ext {t : ByteArray} {p a b : Nat} (h : p + b ≤ t.size) : (t.extract p t.size).extract a b = t.extract (p + a) (p + b) := by
  apply ByteArray.ext
  simp only [ByteArray.data_extract, Array.extract_extract]
  congr 1
  have : t.data.size = t.size := rfl
  omega
theorem bt_ex (s : ByteArray) (a b k : Nat) (hb : b ≤ s.size) (hk : a + k < b) : bt (s.extract a b) k = bt s (a + k) := by
  have h1 : k < (s.extract a b).size := by rw [ByteArray.size_extract]; omega
  rw [← get_bt _ k h1, ← get_bt s (a + k) (by omega)]
  rw [ByteArray.getElem_extract]
theorem takeF_ex {t : ByteArray} {p k : Nat} (hk : k = 1 ∨ k = 2 ∨ k = 4) (h : p + k ≤ t.size) : takeF (t.extract p (p + k)) 0 (k : Int) = takeF t p (k : Int) := by
  have hb : ∀ i, i < k → bt (t.extract p (p + k)) i = bt t (p + i) := fun i hi => bt_ex t p (p + k) i h (by omega)
  rcases hk with rfl | rfl | rfl
  · show takeF _ 0 1 = takeF _ _ 1
    rw [takeF_1, takeF_1, hb 0 (by omega), Nat.add_zero]
  · show takeF _ 0 2 = takeF _ _ 2
    rw [takeF_2, takeF_2]
    unfold raw2
    rw [hb 0 (by omega), hb 1 (by omega), Nat.add_zero]
  · show takeF _ 0 4 = takeF _ _ 4
    rw [takeF_4, takeF_4]
    unfold raw4
    rw [hb 0 (by omega), hb (0 + 1) (by omega), hb (0 + 2) (by omega), hb (0 + 3) (by omega), Nat.add_zero, Nat.zero_add, Nat.zero_add, Nat.zero_add]
theorem rdE_trans {R : Nat} {t : ByteArray} {s : RS} {a b c : World} (h : a.grownBy b (some R)) (g : b.grownBy c (some R)) : a.grownBy c (some R) := row_tr h g
/-- take, where nothing is taken. -/
theorem take_no (R : Nat) (t : ByteArray) (s : RS) (n : Int) (hp : s.p ≤ t.size) (ht : t.size ≤ 65536) (hn : -100000 ≤ n ∧ n ≤ 100000) (ho : s.c ≠ 0 ∨ tooP t n s) (w : World) (h : w.heap[R]? = some (rO t s)) :
    Calls Tryz.prog 132 #[.pointer (some ⟨R, 0, none⟩), .int .i64 n] w (RdEnd R t (if tooP t n s then failP 16 s else s) w (.string ⟨#[]⟩)) := by
  have hz := exz_size (t := t) (p := s.p) (q := t.size) (Nat.le_refl _)
  obtain ⟨c0, c1, f0, f1⟩ := two_c h
  have H := Lib.hid h
  by_cases h1 : tooP t n s
  · rw [if_pos h1]
    have HFA := Lib.hid (fail_any R t s 16 w h)
    have hfc : (failP 16 s).c ≠ 0 := by
      unfold failP
      by_cases q : s.c = 0
      · rw [if_pos q]; exact (by decide : (16 : Int) ≠ 0)
      · rw [if_neg q]; exact q
    have HF : Hid (((failP 16 s).c != 0) = true) := Lib.hid (by rw [bne_iff_ne]; exact hfc)
    have hlt : n < 0 ∨ ((t.extract s.p t.size).size : Int) < n := by unfold tooP at h1; omega
    clear ho h hfc h1 hz H
    generalize t.extract s.p t.size = U at *
    generalize failP 16 s = s2 at *
    by_cases h2 : n < 0
    · clear hlt
      go_enter Tryz.func132, Tryz.ntmps132
      go_wp2_with fail
      refine Calls.mono HFA.out ?_
      rintro e w2 ⟨rfl, ho2, hg2⟩
      obtain ⟨d0, d1, _, _⟩ := two_c ho2
      have HO2 := Lib.hid ho2
      have HG2 := Lib.hid hg2
      have hf := HF.out
      clear ho2 hg2 c0 c1 f0 f1
      go_wp2
      go_ret
      exact ⟨rfl, HO2.out, HG2.out⟩
    · have h3 : (U.size : Int) < n := by omega
      clear hlt
      go_enter Tryz.func132, Tryz.ntmps132
      go_wp2_with fail
      refine Calls.mono HFA.out ?_
      rintro e w2 ⟨rfl, ho2, hg2⟩
      obtain ⟨d0, d1, _, _⟩ := two_c ho2
      have HO2 := Lib.hid ho2
      have HG2 := Lib.hid hg2
      have hf := HF.out
      clear ho2 hg2 c0 c1 f0 f1
      go_wp2
      go_ret
      exact ⟨rfl, HO2.out, HG2.out⟩
  · rw [if_neg h1]
    have hc : s.c ≠ 0 := by
      rcases ho with q | q
      · exact q
      · exact absurd q h1
    have hf : (s.c != 0) = true := by rw [bne_iff_ne]; exact hc
    have h2 : 0 ≤ n := by unfold tooP at h1; omega
    have h3 : n ≤ ((t.extract s.p t.size).size : Int) := by unfold tooP at h1; omega
    have HG := Lib.hid (World.grownBy.refl w (some R))
    clear ho h h1 hc hz
    generalize t.extract s.p t.size = U at *
    go_enter Tryz.func132, Tryz.ntmps132
    go_wp2
    go_ret
    exact ⟨rfl, H.out, HG.out⟩
/-- take, where the bytes are there. -/
theorem take_ok (R : Nat) (t : ByteArray) (s : RS) (k : Nat) (hc : s.c = 0) (hk : s.p + k ≤ t.size) (ht : t.size ≤ 65536) (w : World) (h : w.heap[R]? = some (rO t s)) :
    Calls Tryz.prog 132 #[.pointer (some ⟨R, 0, none⟩), .int .i64 (k : Int)] w (RdEnd R t ⟨s.p + k, 0⟩ w (.string (t.extract s.p (s.p + k)))) := by
  have hz := exz_size (t := t) (p := s.p) (q := t.size) (Nat.le_refl _)
  obtain ⟨c0, c1, f0, f1⟩ := two_c h
  rw [hc] at c1
  have hks : k ≤ (t.extract s.p t.size).size := by omega
  have hU : (t.extract s.p t.size).size ≤ 65536 := by omega
  have HE1 : Hid ((t.extract s.p t.size).extract 0 k = t.extract s.p (s.p + k)) := Lib.hid (by have := ext_ext (t := t) (p := s.p) (a := 0) (b := k) hk; rwa [Nat.add_zero] at this)
  have HE2 : Hid ((t.extract s.p t.size).extract k (t.extract s.p t.size).size = t.extract (s.p + k) t.size) := Lib.hid (by
    rw [hz, ext_ext (by omega)]
    congr 1
    omega)
  have HW : Hid ((w.setCell ⟨R, 0, none⟩ (.string (t.extract (s.p + k) t.size))).heap[R]? = some (rO t ⟨s.p + k, 0⟩)) := Lib.hid (by
    have := wk_set h 0 (.string (t.extract (s.p + k) t.size))
    rw [hc] at this
    exact this)
  have HG := Lib.hid (rdg_set (R := R) (i := 0) w (.string (t.extract (s.p + k) t.size)))
  clear h hz hc
  generalize t.extract s.p t.size = U at *
  go_enter Tryz.func132, Tryz.ntmps132
  go_wp2
  rw [HE2.out]
  go_ret
  exact ⟨by rw [← HE1.out]; rfl, HW.out, HG.out⟩
theorem sizeOK_k {k : Nat} (hk : k = 1 ∨ k = 2 ∨ k = 4) : sizeOK (k : Int) = true := by rcases hk with rfl | rfl | rfl <;> rfl
theorem number_any (R : Nat) (t : ByteArray) (s : RS) (k : Nat) (hk : k = 1 ∨ k = 2 ∨ k = 4) (hp : s.p ≤ t.size) (ht : t.size ≤ 65536) (aR bE : Addr) (w : World) (hS : ∀ X, w.grownBy X (some R) → Sent X aR bE) (h : w.heap[R]? = some (rO t s)) :
    Calls Tryz.prog 89 #[.pointer (some ⟨R, 0, none⟩), .int .i64 (k : Int)] w (RdEnd R t (numS t k s) w (.int .i64 (numP t k s))) := by
  have HS := Lib.hid hS
  by_cases ho : s.c ≠ 0 ∨ t.size < s.p + k
  · have HT := Lib.hid (take_no R t s k hp ht (by omega) (by rcases ho with q | q; exact .inl q; exact .inr (by unfold tooP; omega)) w h)
    have hst : (if tooP t k s then failP 16 s else s) = numS t k s := by
      unfold numS
      rw [if_pos ho]
      by_cases q : tooP t k s
      · rw [if_pos q]
      · rw [if_neg q]
        have : s.c ≠ 0 := by
          rcases ho with a | a
          · exact a
          · exact absurd (show tooP t k s by unfold tooP; omega) q
        unfold failP
        rw [if_neg this]
    rw [hst] at HT
    have HN : Hid (numP t k s = 0) := Lib.hid (if_pos ho)
    have HTN := Lib.hid (fun X hs => takeNumber_any ⟨#[]⟩ (by decide) 0 (k : Int) aR bE X hs)
    have hz : ((⟨#[]⟩ : ByteArray).size : Int) - (k : Int) < 0 := by
      have : (⟨#[]⟩ : ByteArray).size = 0 := rfl
      omega
    have HV : Hid (takeN ⟨#[]⟩ 0 (k : Int) = 0) := Lib.hid (takeN_end (sizeOK_k hk) (.inr hz))
    clear h ho hst hz hS
    generalize numS t k s = s2 at *
    generalize numP t k s = v at *
    go_enter Tryz.func89, Tryz.ntmps89
    go_wp2_with fail
    refine Calls.mono HT.out ?_
    rintro e w2 ⟨rfl, ho2, hg2⟩
    have HO2 := Lib.hid ho2
    have HG2 := Lib.hid hg2
    clear ho2 hg2
    go_wp2_with fail
    refine Calls.mono (HTN.out _ (HS.out _ HG2.out)) ?_
    rintro e w3 ⟨rfl, hb3⟩
    have HO3 := Lib.hid (blk_bel HO2.out hb3)
    have HG3 := Lib.hid (row_tr HG2.out (rdg_bel (R := R) hb3))
    clear hb3
    rw [HV.out]
    go_wp2
    go_ret
    exact ⟨by rw [HN.out]; rfl, HO3.out, HG3.out⟩
  · have hc : s.c = 0 := by
      by_cases q : s.c = 0
      · exact q
      · exact absurd (.inl q) ho
    have hle : s.p + k ≤ t.size := by omega
    have HT := Lib.hid (take_ok R t s k hc hle ht w h)
    have HN : Hid (numP t k s = takeF t s.p k) := Lib.hid (if_neg ho)
    have HSS : Hid (numS t k s = ⟨s.p + k, 0⟩) := Lib.hid (if_neg ho)
    have hez := exz_size (t := t) (p := s.p) (q := s.p + k) hle
    have HTN := Lib.hid (fun X hs => takeNumber_any (t.extract s.p (s.p + k)) (by omega) 0 (k : Int) aR bE X hs)
    have HV : Hid (takeN (t.extract s.p (s.p + k)) 0 (k : Int) = takeF t s.p (k : Int)) := Lib.hid (by
      rw [takeN_ok (sizeOK_k hk) (by omega)]
      exact takeF_ex hk hle)
    clear h ho hc hS hez
    generalize numS t k s = s2 at *
    generalize numP t k s = v at *
    generalize t.extract s.p (s.p + k) = U at *
    go_enter Tryz.func89, Tryz.ntmps89
    go_wp2_with fail
    refine Calls.mono HT.out ?_
    rintro e w2 ⟨rfl, ho2, hg2⟩
    have HO2 := Lib.hid ho2
    have HG2 := Lib.hid hg2
    clear ho2 hg2
    go_wp2_with fail
    refine Calls.mono (HTN.out _ (HS.out _ HG2.out)) ?_
    rintro e w3 ⟨rfl, hb3⟩
    have HO3 := Lib.hid (blk_bel HO2.out hb3)
    have HG3 := Lib.hid (row_tr HG2.out (rdg_bel (R := R) hb3))
    clear hb3
    rw [HV.out]
    go_wp2
    go_ret
    exact ⟨by rw [HN.out]; rfl, by rw [HSS.out]; exact HO3.out, HG3.out⟩
theorem count_any (R : Nat) (t : ByteArray) (s : RS) (most : Int) (hmost : 0 ≤ most ∧ most ≤ 100) (hp : s.p ≤ t.size) (ht : t.size ≤ 65536) (aR bE : Addr) (w : World) (hS : ∀ X, w.grownBy X (some R) → Sent X aR bE) (h : w.heap[R]? = some (rO t s)) :
    Calls Tryz.prog 88 #[.pointer (some ⟨R, 0, none⟩), .int .i64 most] w (RdEnd R t (cntS t most s) w (.int .i64 (cntP t most s))) := by
  have HNB := Lib.hid (number_any R t s 1 (.inl rfl) hp ht aR bE w hS h)
  have HFA := Lib.hid (fun X hx => fail_any R t (numS t 1 s) 6 X hx)
  clear h hS
  by_cases h1 : numP t 1 s < 0 ∨ most < numP t 1 s
  · have HP : Hid (cntP t most s = 0) := Lib.hid (if_pos h1)
    have HQ : Hid (cntS t most s = failP 6 (numS t 1 s)) := Lib.hid (if_pos h1)
    generalize numP t 1 s = n at *
    generalize numS t 1 s = s1 at *
    generalize cntP t most s = v at *
    generalize cntS t most s = s2 at *
    by_cases h2 : n < 0
    all_goals
      try (have h3 : most < n := by omega)
      clear h1
      go_enter Tryz.func88, Tryz.ntmps88
      go_wp2_with fail
      refine Calls.mono HNB.out ?_
      rintro e w2 ⟨rfl, ho2, hg2⟩
      have HO2 := Lib.hid ho2
      have HG2 := Lib.hid hg2
      clear ho2 hg2
      go_wp2_with fail
      refine Calls.mono (HFA.out _ HO2.out) ?_
      rintro e w3 ⟨rfl, ho3, hg3⟩
      have HO3 := Lib.hid ho3
      have HG3 := Lib.hid (row_tr HG2.out hg3)
      clear ho3 hg3
      go_wp2
      go_ret
      exact ⟨by rw [HP.out]; rfl, by rw [HQ.out]; exact HO3.out, HG3.out⟩
  · have HP : Hid (cntP t most s = numP t 1 s) := Lib.hid (if_neg h1)
    have HQ : Hid (cntS t most s = numS t 1 s) := Lib.hid (if_neg h1)
    generalize numP t 1 s = n at *
    generalize numS t 1 s = s1 at *
    generalize cntP t most s = v at *
    generalize cntS t most s = s2 at *
    have h2 : 0 ≤ n := by omega
    have h3 : n ≤ most := by omega
    clear h1
    go_enter Tryz.func88, Tryz.ntmps88
    go_wp2_with fail
    refine Calls.mono HNB.out ?_
    rintro e w2 ⟨rfl, ho2, hg2⟩
    have HO2 := Lib.hid ho2
    have HG2 := Lib.hid hg2
    clear ho2 hg2
    go_wp2
    go_ret
    exact ⟨by rw [HP.out]; rfl, by rw [HQ.out]; exact HO2.out, HG2.out⟩
end Go.Proofs.YtmpppfibeoghaaaGreatDoor
namespace Go.Proofs.YtmpppfibeoghaaaGreatDoor
open Go.ChangeShapes Go.WideShapes Go.ChangeAt Go.RowKit Go.PlainAid
set_option linter.unusedVariables false
theorem manyP_at {α : Type} (f : RS → α) (g : RS → RS) : ∀ (n k : Nat) (s : RS), k < n → (manyP f g n s)[k]? = some (f (manyS g k s))
  | 0, k, s, h => by omega
  | n + 1, 0, s, _ => rfl
  | n + 1, k + 1, s, h => by
    rw [manyP, manyS, List.getElem?_cons_succ]
    exact manyP_at f g n k (g s) (by omega)
theorem rdg_new {R g i : Nat} {w wr : World} (h : w.grownBy wr (some R)) (hg : w.heap.size ≤ g) (u : Value) : w.grownBy (wr.setCell ⟨g, i, none⟩ u) (some R) :=
  ⟨h.os, h.tape, h.output, by simp only [World.setCell, Array.size_modify]; exact h.size, fun k hk hr => (Below.heap_setCell wr ⟨g, i, none⟩ u k (fun e => by simp at e; omega)).trans (h.block k hk hr)⟩
theorem Filled.rk {α : Type} {enc : α → List Value} {s : Nat} {w w' : World} {base e g n cap R : Nat} {zs : List α} {k : Nat} (h : Filled enc s w base e g n cap zs k) (hg : w.grownBy w' (some R)) (hne : g ≠ R) : Filled enc s w' base e g n cap zs k := by
  obtain ⟨tl, hl, ho⟩ := h
  exact ⟨tl, hl, ho.kept hg (Or.inr (by simp [Value.ownBlock]; exact hne))⟩
def KdEnd (R : Nat) (t : ByteArray) (s : RS) (L : List Int) (w : World) (e : Ending) (w' : World) : Prop :=
  ∃ g, e = .returned (.slice (some ⟨g, 0, none⟩) L.length L.length) ∧ w'.ownsRow w.heap.size 3 1 (.slice (some ⟨g, 0, none⟩) L.length L.length) L.length (kC L) ∧ w'.heap[R]? = some (rO t s) ∧ w.grownBy w' (some R)
set_option maxHeartbeats 1000000 in
theorem kinds_any (R : Nat) (t : ByteArray) (s : RS) (hp : s.p ≤ t.size) (ht : t.size ≤ 65536) (aR bE : Addr) (w : World) (hS : ∀ X, w.grownBy X (some R) → Sent X aR bE) (h : w.heap[R]? = some (rO t s)) :
    Calls Tryz.prog 28 #[.pointer (some ⟨R, 0, none⟩)] w (KdEnd R t (manyS (numS t 1) (cntP t 8 s).toNat (cntS t 8 s)) (manyP (numP t 1) (numS t 1) (cntP t 8 s).toNat (cntS t 8 s)) w) := by
  obtain ⟨i0, hi, hz0, hz1, hz2⟩ := info_parts (show (Tryz.prog.info? 3).map (fun i => (i.zero, i.size, i.bytes)) = some (some (.int .i64 0), 1, 8) by kernel_rfl)
  have HI := Lib.hid (And.intro hi (And.intro hz0 (And.intro hz1 hz2)))
  clear hi hz0 hz1 hz2
  have hRw : R < w.heap.size := (Array.getElem?_eq_some_iff.1 h).1
  have HCN := Lib.hid (count_any R t s 8 (by omega) hp ht aR bE w hS h)
  have hrng := cnt_rng (t := t) (most := 8) (s := s) (by omega)
  have hsp := cntS_le (t := t) (most := 8) (s := s) hp
  obtain ⟨n, hn⟩ := Int.eq_ofNat_of_zero_le hrng.1
  rw [hn] at HCN hrng ⊢
  rw [Int.toNat_natCast]
  have HP := Lib.hid (fun k => manyS_le (t := t) (g := numS t 1) (fun s h => numS_le h) k (cntS t 8 s) hsp)
  have HNM := Lib.hid (fun k X (hg : w.grownBy X (some R)) hx => number_any R t (manyS (numS t 1) k (cntS t 8 s)) 1 (.inl rfl) (manyS_le (fun s h => numS_le h) k _ hsp) ht aR bE X (fun Y hY => hS Y (row_tr hg hY)) hx)
  have HL := Lib.hid (manyP_len (numP t 1) (numS t 1) n (cntS t 8 s))
  have HAT := Lib.hid (fun k (hk : k < n) => manyP_at (numP t 1) (numS t 1) n k (cntS t 8 s) hk)
  have HSN := Lib.hid (fun k => manyS_snoc (numS t 1) k (cntS t 8 s))
  have H0 : Hid (manyS (numS t 1) 0 (cntS t 8 s) = cntS t 8 s) := Lib.hid rfl
  have hn8 : n ≤ 8 := by omega
  clear h hS hrng hsp hn
  generalize manyP (numP t 1) (numS t 1) n (cntS t 8 s) = L at *
  generalize cntS t 8 s = s1 at *
  generalize hM : (fun k => manyS (numS t 1) k s1) = M at *
  have HM : Hid (∀ k, manyS (numS t 1) k s1 = M k) := Lib.hid (fun k => by rw [← hM])
  clear hM
  go_enter Tryz.func28, Tryz.ntmps28
  go_wp2_with fail
  refine Calls.mono HCN.out ?_
  rintro e w1 ⟨rfl, ho1, hg1⟩
  have HO1 := Lib.hid ho1
  have HG1 := Lib.hid hg1
  have hsz1 := hg1.size
  clear ho1 hg1
  go_wp2_with (at_make; go_must (refine wpList_make_full _ rfl _ _ _ rfl w.heap.size 3 i0 _ 1 Tryz.underlying23 HI.out.1 HI.out.2.1 HI.out.2.2.1 .i64 .i64 _ _ n rfl rfl rfl rfl (by rw [HI.out.2.2.2]; omega) (by unfold maxLen; omega) hsz1 ?_); intro w2 hown hgrow)
  have hg12 : w1.heap.size < w2.heap.size := (hown.lt _ rfl).2
  have HF2 : Hid (Filled kI 1 w2 w.heap.size 3 w1.heap.size n n L 0) := Lib.hid (Filled.zero hown)
  have hb2 : Below w1.heap.size w1 w2 := (Below.refl _ w1).grown hgrow (Nat.le_refl _) (by intro k hk; cases hk)
  have HO2 : Hid (w2.heap[R]? = some (rO t (manyS (numS t 1) 0 s1))) := Lib.hid (blk_bel HO1.out hb2)
  have HG2 := Lib.hid (row_tr HG1.out (rdg_bel (R := R) hb2))
  have hne : w1.heap.size ≠ R := by omega
  clear hown hgrow hb2
  go_wp2
  go_loopw [12] (fun i wr => ∃ k : Nat, k ≤ n ∧ i = .int .i64 k ∧ Hid (Filled kI 1 wr w.heap.size 3 w1.heap.size n n L k) ∧ Hid (wr.heap[R]? = some (rO t (manyS (numS t 1) k s1))) ∧ Hid (w.grownBy wr (some R))) (fun i _ => n - (intOf i).toNat)
  case atStart => exact ⟨0, Nat.zero_le _, rfl, HF2, HO2, HG2⟩
  case round =>
    obtain ⟨k, hk, rfl, hf, ho, hg⟩ := hrel
    by_cases hlt : k < n
    · have HNk := Lib.hid (HNM.out k wr hg.out ho.out)
      have HATk := Lib.hid (HAT.out k hlt)
      have HSNk := Lib.hid (HSN.out k)
      generalize numP t 1 (manyS (numS t 1) k s1) = x at *
      rw [← HSNk.out] at HNk
      go_wp2_with fail
      refine Calls.mono HNk.out ?_
      rintro e w3 ⟨rfl, ho3, hg3⟩
      have hf3 := hf.out.rk hg3 hne
      obtain ⟨v0, e0⟩ := hf3.there hlt 0 (by omega)
      have f0 := hf3.free (k * 1)
      obtain ⟨hs, _⟩ := hf3.store kI_len HL.out HATk.out
      rw [Nat.mul_one] at e0 f0 hs
      rw [Nat.add_zero] at e0
      have HF3 : Hid (Filled kI 1 (w3.setCell ⟨w1.heap.size, k, none⟩ (.int .i64 x)) w.heap.size 3 w1.heap.size n n L (k + 1)) := Lib.hid hs
      have HO3 := Lib.hid (blk_far (p := w1.heap.size) (i := k) ho3 (Ne.symm hne) (.int .i64 x))
      have HG3 := Lib.hid (rdg_new (row_tr hg.out hg3) (g := w1.heap.size) (i := k) hsz1 (.int .i64 x))
      clear hf3 hs ho3 hg3
      go_wp2
      go_roundw
      case rel => exact ⟨k + 1, by omega, by go_num, HF3, HO3, HG3⟩
      case measure => simp [intOf]; omega
    · obtain rfl : k = n := by omega
      have hfu := hf.out.full HL.out
      rw [kC_flat] at hfu
      have HFU := Lib.hid hfu
      clear hfu
      go_wp2
      go_ret
      exact ⟨w1.heap.size, by rw [HL.out]; rfl, by rw [HL.out]; exact HFU.out, ho.out, hg.out⟩
end Go.Proofs.YtmpppfibeoghaaaGreatDoor
namespace Go.Proofs.YtmpppfibeoghaaaGreatDoor
open Go.ChangeShapes Go.WideShapes Go.ChangeAt Go.RowKit Go.PlainAid
set_option linter.unusedVariables false
theorem rdg_alloc {R : Nat} (w : World) (O : Obj) : w.grownBy (w.alloc O) (some R) := rdg_bel (dbox w O)
theorem rdg_drew {R : Nat} (w : World) : w.grownBy w.drew (some R) := rdg_bel (Below.refl _ _).drew
theorem rdg_at {R k : Nat} {w w' : World} {O : Obj} (g : w.grownBy w' (some R)) (h : w.heap[k]? = some O) (hk : k ≠ R) : w'.heap[k]? = some O := (g.block k (Array.getElem?_eq_some_iff.1 h).1 (fun e => hk (by simpa using e))).trans h
theorem six_f {w : World} {b : Nat} {v0 v1 v2 v3 v4 v5 : Value} {t : TypeId} (h : w.heap[b]? = some (.cells #[v0, v1, v2, v3, v4, v5] t)) : w.frozen? ⟨b, 0, none⟩ = false ∧ w.frozen? ⟨b, 1, none⟩ = false ∧ w.frozen? ⟨b, 2, none⟩ = false ∧ w.frozen? ⟨b, 3, none⟩ = false ∧ w.frozen? ⟨b, 4, none⟩ = false ∧ w.frozen? ⟨b, 5, none⟩ = false :=
  ⟨frozen_of_row w b 0 _ _ h, frozen_of_row w b 1 _ _ h, frozen_of_row w b 2 _ _ h, frozen_of_row w b 3 _ _ h, frozen_of_row w b 4 _ _ h, frozen_of_row w b 5 _ _ h⟩
theorem six_v {w : World} {b : Nat} {v0 v1 v2 v3 v4 v5 : Value} {t : TypeId} (h : w.heap[b]? = some (.cells #[v0, v1, v2, v3, v4, v5] t)) : w.cell? ⟨b, 0, none⟩ = some v0 ∧ w.cell? ⟨b, 1, none⟩ = some v1 ∧ w.cell? ⟨b, 2, none⟩ = some v2 ∧ w.cell? ⟨b, 3, none⟩ = some v3 ∧ w.cell? ⟨b, 4, none⟩ = some v4 ∧ w.cell? ⟨b, 5, none⟩ = some v5 :=
  ⟨cell_of_row w b 0 _ _ _ h, cell_of_row w b 1 _ _ _ h, cell_of_row w b 2 _ _ _ h, cell_of_row w b 3 _ _ _ h, cell_of_row w b 4 _ _ _ h, cell_of_row w b 5 _ _ _ h⟩
set_option maxRecDepth 100000 in
set_option maxHeartbeats 2000000 in
theorem task_any (R : Nat) (t : ByteArray) (s : RS) (hp : s.p ≤ t.size) (ht : t.size ≤ 65536) (aR bE : Addr) (w : World) (hS : ∀ X, w.grownBy X (some R) → Sent X aR bE) (h : w.heap[R]? = some (rO t s)) :
    Calls Tryz.prog 91 #[.pointer (some ⟨R, 0, none⟩)] w (RdEnd R t (tkS6 t s) w (tV (tskP t s))) := by
  have hRw : R < w.heap.size := (Array.getElem?_eq_some_iff.1 h).1
  have HNB := Lib.hid (fun k (hk : k = 1 ∨ k = 2 ∨ k = 4) (s : RS) (hp : s.p ≤ t.size) X (hg : w.grownBy X (some R)) hx => number_any R t s k hk hp ht aR bE X (fun Y hY => hS Y (row_tr hg hY)) hx)
  have P1 := Lib.hid (numS_le (t := t) (k := 1) hp)
  have P2 := Lib.hid (numS_le (t := t) (k := 4) P1.out)
  have P3 := Lib.hid (numS_le (t := t) (k := 4) P2.out)
  have P4 := Lib.hid (numS_le (t := t) (k := 1) P3.out)
  have P5 := Lib.hid (numS_le (t := t) (k := 1) P4.out)
  have P0 := Lib.hid hp
  have HXa := Lib.hid (heap_alloc_new w (tO t0 78))
  have HO := Lib.hid (show (w.alloc (tO t0 78)).drew.heap[R]? = some (rO t s) from (Below.heap_alloc w (tO t0 78) R hRw).trans h)
  have HG := Lib.hid (row_tr (rdg_alloc (R := R) w (tO t0 78)) (rdg_drew _))
  have HQ : Hid (w.heap.size ≠ R) := Lib.hid (by omega)
  have HV : Hid (∀ w', w'.heap[R]? = some (rO t (numS t 1 (numS t 1 (numS t 1 (numS t 4 (numS t 4 (numS t 1 s))))))) → w.grownBy w' (some R) → RdEnd R t (tkS6 t s) w (tV (tskP t s)) (.returned (.agg #[.int .i64 (numP t 1 s), .int .i64 (numP t 4 (numS t 1 s)), .int .i64 (numP t 4 (numS t 4 (numS t 1 s))), .int .i64 (numP t 1 (numS t 4 (numS t 4 (numS t 1 s)))), .int .i64 (numP t 1 (numS t 1 (numS t 4 (numS t 4 (numS t 1 s))))), .int .i64 (numP t 1 (numS t 1 (numS t 1 (numS t 4 (numS t 4 (numS t 1 s))))))])) w') := Lib.hid (fun w' h1 h2 => ⟨rfl, h1, h2⟩)
  clear h hS hp
  generalize RdEnd R t (tkS6 t s) w (tV (tskP t s)) = POST at *
  have N1 := Lib.hid (fun X hg hx => HNB.out 1 (.inl rfl) s P0.out X hg hx)
  have N2 := Lib.hid (fun X hg hx => HNB.out 4 (.inr (.inr rfl)) _ P1.out X hg hx)
  have N3 := Lib.hid (fun X hg hx => HNB.out 4 (.inr (.inr rfl)) _ P2.out X hg hx)
  have N4 := Lib.hid (fun X hg hx => HNB.out 1 (.inl rfl) _ P3.out X hg hx)
  have N5 := Lib.hid (fun X hg hx => HNB.out 1 (.inl rfl) _ P4.out X hg hx)
  have N6 := Lib.hid (fun X hg hx => HNB.out 1 (.inl rfl) _ P5.out X hg hx)
  clear HNB P0 P1 P2 P3 P4 P5
  generalize numP t 1 s = z1 at *
  generalize numS t 1 s = s1 at *
  generalize numP t 4 s1 = z2 at *
  generalize numS t 4 s1 = s2 at *
  generalize numP t 4 s2 = z3 at *
  generalize numS t 4 s2 = s3 at *
  generalize numP t 1 s3 = z4 at *
  generalize numS t 1 s3 = s4 at *
  generalize numP t 1 s4 = z5 at *
  generalize numS t 1 s4 = s5 at *
  generalize numP t 1 s5 = z6 at *
  generalize numS t 1 s5 = s6 at *
  go_enter Tryz.func91, Tryz.ntmps91
  go_wp2
  refine wp_region_hl 25 (fun X => True) (by kernel_rfl) rfl rfl (by kernel_rfl) ?_
  refine hl_take (v := ?v0) 0 rfl (by kernel_rfl) (fun _ _ _ h => h) (Or.inl ⟨by rfl, ?hy0⟩) trivial ?rest0
  case hy0 =>
    intro X hSw
    go_simp <;> with_reducible rfl
  try simp only [Act.put, List.setIfInBounds_toArray, List.set_cons_zero, List.set_cons_succ]
  refine hl_take (v := ?v1) 1 rfl (by kernel_rfl) (fun _ _ _ h => h) (Or.inl ⟨by rfl, ?hy1⟩) trivial ?rest1
  case hy1 =>
    intro X hSw
    go_simp <;> with_reducible rfl
  try simp only [Act.put, List.setIfInBounds_toArray, List.set_cons_zero, List.set_cons_succ]
  refine hl_take (v := ?v2) 2 rfl (by kernel_rfl) (fun _ _ _ h => h) (Or.inl ⟨by rfl, ?hy2⟩) trivial ?rest2
  case hy2 =>
    intro X hSw
    go_simp <;> with_reducible rfl
  try simp only [Act.put, List.setIfInBounds_toArray, List.set_cons_zero, List.set_cons_succ]
  refine hl_take (v := ?v4) 4 rfl (by kernel_rfl) (fun _ _ _ h => h) (Or.inl ⟨by rfl, ?hy4⟩) trivial ?rest4
  case hy4 =>
    intro X hSw
    go_simp <;> with_reducible rfl
  try simp only [Act.put, List.setIfInBounds_toArray, List.set_cons_zero, List.set_cons_succ]
  refine hl_take (v := ?v5) 5 rfl (by kernel_rfl) (fun _ _ _ h => h) (Or.inl ⟨by rfl, ?hy5⟩) trivial ?rest5
  case hy5 =>
    intro X hSw
    go_simp <;> with_reducible rfl
  try simp only [Act.put, List.setIfInBounds_toArray, List.set_cons_zero, List.set_cons_succ]
  refine hl_take (v := ?v6) 6 rfl (by kernel_rfl) (fun _ _ _ h => h) (Or.inl ⟨by rfl, ?hy6⟩) trivial ?rest6
  case hy6 =>
    intro X hSw
    go_simp <;> with_reducible rfl
  try simp only [Act.put, List.setIfInBounds_toArray, List.set_cons_zero, List.set_cons_succ]
  refine hl_take (v := ?v8) 8 rfl (by kernel_rfl) (fun _ _ _ h => h) (Or.inl ⟨by rfl, ?hy8⟩) trivial ?rest8
  case hy8 =>
    intro X hSw
    go_simp <;> with_reducible rfl
  try simp only [Act.put, List.setIfInBounds_toArray, List.set_cons_zero, List.set_cons_succ]
  refine hl_take (v := ?v9) 9 rfl (by kernel_rfl) (fun _ _ _ h => h) (Or.inl ⟨by rfl, ?hy9⟩) trivial ?rest9
  case hy9 =>
    intro X hSw
    go_simp <;> with_reducible rfl
  try simp only [Act.put, List.setIfInBounds_toArray, List.set_cons_zero, List.set_cons_succ]
  refine hl_take (v := ?v10) 10 rfl (by kernel_rfl) (fun _ _ _ h => h) (Or.inl ⟨by rfl, ?hy10⟩) trivial ?rest10
  case hy10 =>
    intro X hSw
    go_simp <;> with_reducible rfl
  try simp only [Act.put, List.setIfInBounds_toArray, List.set_cons_zero, List.set_cons_succ]
  refine hl_take (v := ?v12) 12 rfl (by kernel_rfl) (fun _ _ _ h => h) (Or.inl ⟨by rfl, ?hy12⟩) trivial ?rest12
  case hy12 =>
    intro X hSw
    go_simp <;> with_reducible rfl
  try simp only [Act.put, List.setIfInBounds_toArray, List.set_cons_zero, List.set_cons_succ]
  refine hl_take (v := ?v13) 13 rfl (by kernel_rfl) (fun _ _ _ h => h) (Or.inl ⟨by rfl, ?hy13⟩) trivial ?rest13
  case hy13 =>
    intro X hSw
    go_simp <;> with_reducible rfl
  try simp only [Act.put, List.setIfInBounds_toArray, List.set_cons_zero, List.set_cons_succ]
  refine hl_take (v := ?v14) 14 rfl (by kernel_rfl) (fun _ _ _ h => h) (Or.inl ⟨by rfl, ?hy14⟩) trivial ?rest14
  case hy14 =>
    intro X hSw
    go_simp <;> with_reducible rfl
  try simp only [Act.put, List.setIfInBounds_toArray, List.set_cons_zero, List.set_cons_succ]
  refine hl_take (v := ?v16) 16 rfl (by kernel_rfl) (fun _ _ _ h => h) (Or.inl ⟨by rfl, ?hy16⟩) trivial ?rest16
  case hy16 =>
    intro X hSw
    go_simp <;> with_reducible rfl
  try simp only [Act.put, List.setIfInBounds_toArray, List.set_cons_zero, List.set_cons_succ]
  refine hl_take (v := ?v17) 17 rfl (by kernel_rfl) (fun _ _ _ h => h) (Or.inl ⟨by rfl, ?hy17⟩) trivial ?rest17
  case hy17 =>
    intro X hSw
    go_simp <;> with_reducible rfl
  try simp only [Act.put, List.setIfInBounds_toArray, List.set_cons_zero, List.set_cons_succ]
  refine hl_take (v := ?v18) 18 rfl (by kernel_rfl) (fun _ _ _ h => h) (Or.inl ⟨by rfl, ?hy18⟩) trivial ?rest18
  case hy18 =>
    intro X hSw
    go_simp <;> with_reducible rfl
  try simp only [Act.put, List.setIfInBounds_toArray, List.set_cons_zero, List.set_cons_succ]
  refine hl_take (v := ?v20) 20 rfl (by kernel_rfl) (fun _ _ _ h => h) (Or.inl ⟨by rfl, ?hy20⟩) trivial ?rest20
  case hy20 =>
    intro X hSw
    go_simp <;> with_reducible rfl
  try simp only [Act.put, List.setIfInBounds_toArray, List.set_cons_zero, List.set_cons_succ]
  refine hl_take (v := ?v21) 21 rfl (by kernel_rfl) (fun _ _ _ h => h) (Or.inl ⟨by rfl, ?hy21⟩) trivial ?rest21
  case hy21 =>
    intro X hSw
    go_simp <;> with_reducible rfl
  try simp only [Act.put, List.setIfInBounds_toArray, List.set_cons_zero, List.set_cons_succ]
  refine hl_take (v := ?v22) 22 rfl (by kernel_rfl) (fun _ _ _ h => h) (Or.inl ⟨by rfl, ?hy22⟩) trivial ?rest22
  case hy22 =>
    intro X hSw
    go_simp <;> with_reducible rfl
  try simp only [Act.put, List.setIfInBounds_toArray, List.set_cons_zero, List.set_cons_succ]
  refine hl_one 3 rfl (by kernel_rfl) (fun K hK => ?_)
  go_simp
  refine Calls.mono (N1.out _ HG.out HO.out) ?_
  rintro e u3 ⟨rfl, ho, hg⟩
  refine hK.out _ _ trivial ?_
  have HO := Lib.hid ho
  have HX0 := Lib.hid (rdg_at hg HXa.out HQ.out)
  have HG := Lib.hid (row_tr HG.out hg)
  clear hK ho hg
  try simp only [Act.put, List.setIfInBounds_toArray, List.set_cons_zero, List.set_cons_succ]
  refine hl_one 7 rfl (by kernel_rfl) (fun K hK => ?_)
  go_simp
  refine Calls.mono (N2.out _ HG.out HO.out) ?_
  rintro e u7 ⟨rfl, ho, hg⟩
  refine hK.out _ _ trivial ?_
  have HO := Lib.hid ho
  have HX1 := Lib.hid (rdg_at hg HX0.out HQ.out)
  have HG := Lib.hid (row_tr HG.out hg)
  clear hK ho hg
  try simp only [Act.put, List.setIfInBounds_toArray, List.set_cons_zero, List.set_cons_succ]
  refine hl_one 11 rfl (by kernel_rfl) (fun K hK => ?_)
  go_simp
  refine Calls.mono (N3.out _ HG.out HO.out) ?_
  rintro e u11 ⟨rfl, ho, hg⟩
  refine hK.out _ _ trivial ?_
  have HO := Lib.hid ho
  have HX2 := Lib.hid (rdg_at hg HX1.out HQ.out)
  have HG := Lib.hid (row_tr HG.out hg)
  clear hK ho hg
  try simp only [Act.put, List.setIfInBounds_toArray, List.set_cons_zero, List.set_cons_succ]
  refine hl_one 15 rfl (by kernel_rfl) (fun K hK => ?_)
  go_simp
  refine Calls.mono (N4.out _ HG.out HO.out) ?_
  rintro e u15 ⟨rfl, ho, hg⟩
  refine hK.out _ _ trivial ?_
  have HO := Lib.hid ho
  have HX3 := Lib.hid (rdg_at hg HX2.out HQ.out)
  have HG := Lib.hid (row_tr HG.out hg)
  clear hK ho hg
  try simp only [Act.put, List.setIfInBounds_toArray, List.set_cons_zero, List.set_cons_succ]
  refine hl_one 19 rfl (by kernel_rfl) (fun K hK => ?_)
  go_simp
  refine Calls.mono (N5.out _ HG.out HO.out) ?_
  rintro e u19 ⟨rfl, ho, hg⟩
  refine hK.out _ _ trivial ?_
  have HO := Lib.hid ho
  have HX4 := Lib.hid (rdg_at hg HX3.out HQ.out)
  have HG := Lib.hid (row_tr HG.out hg)
  clear hK ho hg
  try simp only [Act.put, List.setIfInBounds_toArray, List.set_cons_zero, List.set_cons_succ]
  refine hl_one 23 rfl (by kernel_rfl) (fun K hK => ?_)
  go_simp
  refine Calls.mono (N6.out _ HG.out HO.out) ?_
  rintro e u23 ⟨rfl, ho, hg⟩
  refine hK.out _ _ trivial ?_
  have HO := Lib.hid ho
  have HX5 := Lib.hid (rdg_at hg HX4.out HQ.out)
  have HG := Lib.hid (row_tr HG.out hg)
  clear hK ho hg
  try simp only [Act.put, List.setIfInBounds_toArray, List.set_cons_zero, List.set_cons_succ]
  refine hl_take (v := ?v24) 24 rfl (by kernel_rfl) (fun _ _ _ h => h) (Or.inl ⟨by rfl, ?hy24⟩) trivial ?rest24
  case hy24 =>
    intro X hSw
    go_simp <;> with_reducible rfl
  try simp only [Act.put, List.setIfInBounds_toArray, List.set_cons_zero, List.set_cons_succ]
  obtain ⟨k0, k1, k2, k3, k4, k5⟩ := six_v HX5.out
  obtain ⟨g0, g1, g2, g3, g4, g5⟩ := six_f HX5.out
  refine hl_done (by kernel_rfl) ?_
  go_simp
  go_wp2
  refine bodyPost_ret (v := .agg #[.int .i64 z1, .int .i64 z2, .int .i64 z3, .int .i64 z4, .int .i64 z5, .int .i64 z6]) (by simp [results, Tryz.results91, go_sem, k0, k1, k2, k3, k4, k5]) rfl ?_
  refine HV.out _ (blk_far (blk_far (blk_far (blk_far (blk_far (blk_far HO.out (Ne.symm HQ.out) _) (Ne.symm HQ.out) _) (Ne.symm HQ.out) _) (Ne.symm HQ.out) _) (Ne.symm HQ.out) _) (Ne.symm HQ.out) _) ?_
  exact rdg_new (rdg_new (rdg_new (rdg_new (rdg_new (rdg_new HG.out (Nat.le_refl _) _) (Nat.le_refl _) _) (Nat.le_refl _) _) (Nat.le_refl _) _) (Nat.le_refl _) _) (Nat.le_refl _) _
def TsEnd (R : Nat) (t : ByteArray) (s : RS) (L : List TT) (w : World) (e : Ending) (w' : World) : Prop :=
  ∃ g, e = .returned (.slice (some ⟨g, 0, none⟩) L.length L.length) ∧ w'.ownsRow w.heap.size 78 6 (.slice (some ⟨g, 0, none⟩) L.length L.length) L.length (flat tC L) ∧ w'.heap[R]? = some (rO t s) ∧ w.grownBy w' (some R)
set_option maxHeartbeats 1000000 in
theorem tasks_any (R : Nat) (t : ByteArray) (s : RS) (hp : s.p ≤ t.size) (ht : t.size ≤ 65536) (aR bE : Addr) (w : World) (hS : ∀ X, w.grownBy X (some R) → Sent X aR bE) (h : w.heap[R]? = some (rO t s)) :
    Calls Tryz.prog 30 #[.pointer (some ⟨R, 0, none⟩)] w (TsEnd R t (manyS (tkS6 t) (cntP t 5 s).toNat (cntS t 5 s)) (manyP (tskP t) (tkS6 t) (cntP t 5 s).toNat (cntS t 5 s)) w) := by
  obtain ⟨i0, hi, hz0, hz1, hz2⟩ := info_parts (show (Tryz.prog.info? 78).map (fun i => (i.zero, i.size, i.bytes)) = some (some (.agg #[.int .i64 0, .int .i64 0, .int .i64 0, .int .i64 0, .int .i64 0, .int .i64 0]), 6, 48) by kernel_rfl)
  have HI := Lib.hid (And.intro hi (And.intro hz0 (And.intro hz1 hz2)))
  clear hi hz0 hz1 hz2
  have hRw : R < w.heap.size := (Array.getElem?_eq_some_iff.1 h).1
  have HCN := Lib.hid (count_any R t s 5 (by omega) hp ht aR bE w hS h)
  have hrng := cnt_rng (t := t) (most := 5) (s := s) (by omega)
  have hsp := cntS_le (t := t) (most := 5) (s := s) hp
  obtain ⟨n, hn⟩ := Int.eq_ofNat_of_zero_le hrng.1
  rw [hn] at HCN hrng ⊢
  rw [Int.toNat_natCast]
  have HP := Lib.hid (fun k => manyS_le (t := t) (g := tkS6 t) (fun s h => tkS6_le h) k (cntS t 5 s) hsp)
  have HNM := Lib.hid (fun k X (hg : w.grownBy X (some R)) hx => task_any R t (manyS (tkS6 t) k (cntS t 5 s)) (manyS_le (fun s h => tkS6_le h) k _ hsp) ht aR bE X (fun Y hY => hS Y (row_tr hg hY)) hx)
  have HL := Lib.hid (manyP_len (tskP t) (tkS6 t) n (cntS t 5 s))
  have HAT := Lib.hid (fun k (hk : k < n) => manyP_at (tskP t) (tkS6 t) n k (cntS t 5 s) hk)
  have HSN := Lib.hid (fun k => manyS_snoc (tkS6 t) k (cntS t 5 s))
  have H0 : Hid (manyS (tkS6 t) 0 (cntS t 5 s) = cntS t 5 s) := Lib.hid rfl
  have hn8 : n ≤ 5 := by omega
  clear h hS hrng hsp hn
  generalize manyP (tskP t) (tkS6 t) n (cntS t 5 s) = L at *
  generalize cntS t 5 s = s1 at *
  generalize hM : (fun k => manyS (tkS6 t) k s1) = M at *
  have HM : Hid (∀ k, manyS (tkS6 t) k s1 = M k) := Lib.hid (fun k => by rw [← hM])
  clear hM
  go_enter Tryz.func30, Tryz.ntmps30
  go_wp2_with fail
  refine Calls.mono HCN.out ?_
  rintro e w1 ⟨rfl, ho1, hg1⟩
  have HO1 := Lib.hid ho1
  have HG1 := Lib.hid hg1
  have hsz1 := hg1.size
  clear ho1 hg1
  go_wp2_with (at_make; go_must (refine wpList_make_full _ rfl _ _ _ rfl w.heap.size 78 i0 _ 6 Tryz.underlying25 HI.out.1 HI.out.2.1 HI.out.2.2.1 .i64 .i64 _ _ n rfl rfl rfl rfl (by rw [HI.out.2.2.2]; omega) (by unfold maxLen; omega) hsz1 ?_); intro w2 hown hgrow)
  have hg12 : w1.heap.size < w2.heap.size := (hown.lt _ rfl).2
  have HF2 : Hid (Filled tC 6 w2 w.heap.size 78 w1.heap.size n n L 0) := Lib.hid (Filled.zero hown)
  have hb2 : Below w1.heap.size w1 w2 := (Below.refl _ w1).grown hgrow (Nat.le_refl _) (by intro k hk; cases hk)
  have HO2 : Hid (w2.heap[R]? = some (rO t (manyS (tkS6 t) 0 s1))) := Lib.hid (blk_bel HO1.out hb2)
  have HG2 := Lib.hid (row_tr HG1.out (rdg_bel (R := R) hb2))
  have hne : w1.heap.size ≠ R := by omega
  clear hown hgrow hb2
  go_wp2
  go_loopw [12] (fun i wr => ∃ k : Nat, k ≤ n ∧ i = .int .i64 k ∧ Hid (Filled tC 6 wr w.heap.size 78 w1.heap.size n n L k) ∧ Hid (wr.heap[R]? = some (rO t (manyS (tkS6 t) k s1))) ∧ Hid (w.grownBy wr (some R))) (fun i _ => n - (intOf i).toNat)
  case atStart => exact ⟨0, Nat.zero_le _, rfl, HF2, HO2, HG2⟩
  case round =>
    obtain ⟨k, hk, rfl, hf, ho, hg⟩ := hrel
    by_cases hlt : k < n
    · have HNk := Lib.hid (HNM.out k wr hg.out ho.out)
      have HATk := Lib.hid (HAT.out k hlt)
      have HSNk := Lib.hid (HSN.out k)
      generalize tskP t (manyS (tkS6 t) k s1) = x at *
      rw [← HSNk.out] at HNk
      go_wp2_with fail
      refine Calls.mono HNk.out ?_
      rintro e w3 ⟨rfl, ho3, hg3⟩
      have hf3 := hf.out.rk hg3 hne
      obtain ⟨v0, e0⟩ := hf3.there hlt 0 (by omega)
      obtain ⟨v1, e1⟩ := hf3.there hlt 1 (by omega)
      obtain ⟨v2, e2⟩ := hf3.there hlt 2 (by omega)
      obtain ⟨v3, e3⟩ := hf3.there hlt 3 (by omega)
      obtain ⟨v4, e4⟩ := hf3.there hlt 4 (by omega)
      obtain ⟨v5, e5⟩ := hf3.there hlt 5 (by omega)
      have f0 := hf3.free (k * 6)
      have f1 := hf3.free (k * 6 + 1)
      have f2 := hf3.free (k * 6 + 2)
      have f3 := hf3.free (k * 6 + 3)
      have f4 := hf3.free (k * 6 + 4)
      have f5 := hf3.free (k * 6 + 5)
      obtain ⟨hs, _⟩ := hf3.store tC_len HL.out HATk.out
      rw [Nat.add_zero] at e0
      have HF3 : Hid (Filled tC 6 ((((((w3.setCell ⟨w1.heap.size, k * 6, none⟩ (.int .i64 x.k)).setCell ⟨w1.heap.size, k * 6 + 1, none⟩ (.int .i64 x.p)).setCell ⟨w1.heap.size, k * 6 + 2, none⟩ (.int .i64 x.d)).setCell ⟨w1.heap.size, k * 6 + 3, none⟩ (.int .i64 x.i)).setCell ⟨w1.heap.size, k * 6 + 4, none⟩ (.int .i64 x.q)).setCell ⟨w1.heap.size, k * 6 + 5, none⟩ (.int .i64 x.r)) w.heap.size 78 w1.heap.size n n L (k + 1)) := Lib.hid hs
      have HO3 := Lib.hid (blk_far (p := w1.heap.size) (i := k * 6 + 5) (blk_far (p := w1.heap.size) (i := k * 6 + 4) (blk_far (p := w1.heap.size) (i := k * 6 + 3) (blk_far (p := w1.heap.size) (i := k * 6 + 2) (blk_far (p := w1.heap.size) (i := k * 6 + 1) (blk_far (p := w1.heap.size) (i := k * 6) ho3 (Ne.symm hne) (.int .i64 x.k)) (Ne.symm hne) (.int .i64 x.p)) (Ne.symm hne) (.int .i64 x.d)) (Ne.symm hne) (.int .i64 x.i)) (Ne.symm hne) (.int .i64 x.q)) (Ne.symm hne) (.int .i64 x.r))
      have HG3 := Lib.hid (rdg_new (g := w1.heap.size) (i := k * 6 + 5) (rdg_new (g := w1.heap.size) (i := k * 6 + 4) (rdg_new (g := w1.heap.size) (i := k * 6 + 3) (rdg_new (g := w1.heap.size) (i := k * 6 + 2) (rdg_new (g := w1.heap.size) (i := k * 6 + 1) (rdg_new (g := w1.heap.size) (i := k * 6) (row_tr hg.out hg3) hsz1 (.int .i64 x.k)) hsz1 (.int .i64 x.p)) hsz1 (.int .i64 x.d)) hsz1 (.int .i64 x.i)) hsz1 (.int .i64 x.q)) hsz1 (.int .i64 x.r))
      clear hf3 hs ho3 hg3
      go_wp2
      go_roundw
      case rel => exact ⟨k + 1, by omega, by go_num, HF3, HO3, HG3⟩
      case measure => simp [intOf]; omega
    · obtain rfl : k = n := by omega
      have hfu := hf.out.full HL.out
      have HFU := Lib.hid hfu
      clear hfu
      go_wp2
      go_ret
      exact ⟨w1.heap.size, by rw [HL.out]; rfl, by rw [HL.out]; exact HFU.out, ho.out, hg.out⟩
end Go.Proofs.YtmpppfibeoghaaaGreatDoor
namespace Go.Proofs.YtmpppfibeoghaaaGreatDoor
open Go.ChangeShapes Go.WideShapes Go.ChangeAt Go.RowKit Go.PlainAid
set_option linter.unusedVariables false
theorem and_all : ∀ j : Fin 256, bits BinOp.and IntKind.i64 ((j.val : Int) - 128) 1 = ((j.val : Int) - 128) % 2 := by decide +kernel
theorem pin_bits {n : Int} {k : Nat} (hn : -128 ≤ n ∧ n ≤ 127) (hk : k < 8) : (bits BinOp.and IntKind.i64 (n / 2 ^ k) 1 == 1) = pinB n k := by
  have hm : -128 ≤ n / 2 ^ k ∧ n / 2 ^ k ≤ 127 := by
    obtain rfl | rfl | rfl | rfl | rfl | rfl | rfl | rfl : k = 0 ∨ k = 1 ∨ k = 2 ∨ k = 3 ∨ k = 4 ∨ k = 5 ∨ k = 6 ∨ k = 7 := by omega
    all_goals
      simp only [Int.reducePow, Int.pow_zero, Int.ediv_one]
      omega
  have h := and_all ⟨(n / 2 ^ k + 128).toNat, by omega⟩
  have e : (((n / 2 ^ k + 128).toNat : Nat) : Int) - 128 = n / 2 ^ k := by omega
  simp only [e] at h
  rw [h]
  rfl
theorem pins_at (n : Int) {k : Nat} (h : k < 8) : (pins n)[k]? = some (pinB n k) := by simp [pins, h]
def PnEnd (L : List Bool) (w : World) (e : Ending) (w' : World) : Prop :=
  ∃ g, e = .returned (.slice (some ⟨g, 0, none⟩) 8 8) ∧ w'.ownsRow w.heap.size 4 1 (.slice (some ⟨g, 0, none⟩) 8 8) 8 (flat bI L) ∧ Below w.heap.size w w'
set_option maxHeartbeats 1000000 in
theorem pinsOf_any (n : Int) (hn : -128 ≤ n ∧ n ≤ 127) (w : World) : Calls Tryz.prog 92 #[.int .i64 n] w (PnEnd (pins n) w) := by
  obtain ⟨i0, hi, hz0, hz1, hz2⟩ := info_parts (show (Tryz.prog.info? 4).map (fun i => (i.zero, i.size, i.bytes)) = some (some (.bool false), 1, 1) by kernel_rfl)
  have HI := Lib.hid (And.intro hi (And.intro hz0 (And.intro hz1 hz2)))
  clear hi hz0 hz1 hz2
  have HL := Lib.hid (pins_len n)
  have HAT := Lib.hid (fun k (h : k < 8) => pins_at n h)
  go_enter Tryz.func92, Tryz.ntmps92
  go_wp2_with (at_make; go_must (refine wpList_make_full _ rfl _ _ _ rfl w.heap.size 4 i0 _ 1 Tryz.underlying26 HI.out.1 HI.out.2.1 HI.out.2.2.1 .i64 .i64 _ _ 8 rfl rfl rfl rfl (by rw [HI.out.2.2.2]; omega) (by unfold maxLen; omega) (Nat.le_refl _) ?_); intro w1 hown1 hgrow1)
  have Ho1 := Lib.hid (Filled.zero (enc := bI) (zs := pins n) hown1)
  have Hb1 := Lib.hid ((Below.refl w.heap.size w).grown hgrow1 (Nat.le_refl _) (by intro k hk; cases hk))
  clear hown1 hgrow1
  go_loopw [8] (fun i wr => ∃ k : Nat, k ≤ 8 ∧ i = .int .i64 k ∧ Hid (Filled bI 1 wr w.heap.size 4 w.heap.size 8 8 (pins n) k) ∧ Hid (Below w.heap.size w wr)) (fun i _ => 8 - (intOf i).toNat)
  case atStart => exact ⟨0, Nat.zero_le _, rfl, Ho1, Hb1⟩
  case round =>
    obtain ⟨k, hk, rfl, ho, hb⟩ := hrel
    by_cases hlt : k < 8
    · obtain ⟨v0, e0⟩ := ho.out.there hlt 0 (by omega)
      have f0 := ho.out.free (k * 1)
      obtain ⟨hs, _⟩ := ho.out.store bI_len HL.out (HAT.out k hlt)
      rw [Nat.mul_one] at e0 f0 hs
      rw [Nat.add_zero] at e0
      rw [← pin_bits hn hlt] at hs
      have Hs : Hid (Filled bI 1 (wr.setCell ⟨w.heap.size, k, none⟩ (.bool (bits BinOp.and IntKind.i64 (n / 2 ^ k) 1 == 1))) w.heap.size 4 w.heap.size 8 8 (pins n) (k + 1)) := Lib.hid hs
      have Hg := Lib.hid (bel_set (i := k) hb.out (Nat.le_refl _) (.bool (bits BinOp.and IntKind.i64 (n / 2 ^ k) 1 == 1)))
      clear hs
      go_wp2
      go_roundw
      case rel => exact ⟨k + 1, by omega, by go_num, Hs, Hg⟩
      case measure => simp [intOf]; omega
    · obtain rfl : k = 8 := by omega
      go_wp2
      go_ret
      exact ⟨w.heap.size, rfl, ho.out.full HL.out, hb.out⟩
theorem num1_rng (t : ByteArray) (s : RS) : -128 ≤ numP t 1 s ∧ numP t 1 s ≤ 127 := by
  unfold numP
  split
  · omega
  · show -128 ≤ takeF t s.p 1 ∧ takeF t s.p 1 ≤ 127
    rw [takeF_1]
    have h1 := bt_nonneg t s.p
    have h2 := bt_le t s.p
    split <;> omega
def SfEnd (R : Nat) (t : ByteArray) (s : RS) (L : List Bool) (w : World) (e : Ending) (w' : World) : Prop :=
  ∃ g, e = .returned (.slice (some ⟨g, 0, none⟩) 8 8) ∧ w'.ownsRow w.heap.size 4 1 (.slice (some ⟨g, 0, none⟩) 8 8) 8 (flat bI L) ∧ w'.heap[R]? = some (rO t s) ∧ w.grownBy w' (some R)
theorem safe_any (R : Nat) (t : ByteArray) (s : RS) (hp : s.p ≤ t.size) (ht : t.size ≤ 65536) (aR bE : Addr) (w : World) (hS : ∀ X, w.grownBy X (some R) → Sent X aR bE) (h : w.heap[R]? = some (rO t s)) :
    Calls Tryz.prog 31 #[.pointer (some ⟨R, 0, none⟩)] w (SfEnd R t (numS t 1 s) (pins (numP t 1 s)) w) := by
  have HN := Lib.hid (number_any R t s 1 (.inl rfl) hp ht aR bE w hS h)
  have HPN := Lib.hid (fun X => pinsOf_any (numP t 1 s) (num1_rng t s) X)
  clear h hS
  generalize numP t 1 s = n at *
  generalize numS t 1 s = s2 at *
  go_enter Tryz.func31, Tryz.ntmps31
  go_wp2_with fail
  refine Calls.mono HN.out ?_
  rintro e w2 ⟨rfl, ho2, hg2⟩
  have HO2 := Lib.hid ho2
  have HG2 := Lib.hid hg2
  have hsz := hg2.size
  clear ho2 hg2
  go_wp2_with fail
  refine Calls.mono (HPN.out _) ?_
  rintro e w3 ⟨g, rfl, ho3, hb3⟩
  have HO3 := Lib.hid (own_base ho3 hsz)
  have HR3 := Lib.hid (blk_bel HO2.out hb3)
  have HG3 := Lib.hid (row_tr HG2.out (rdg_bel (R := R) hb3))
  clear ho3 hb3
  go_wp2
  go_ret
  exact ⟨g, rfl, HO3.out, HR3.out, HG3.out⟩
def endP (t : ByteArray) (s : RS) : RS := if s.p = t.size then s else failP 8 s
theorem end_any (R : Nat) (t : ByteArray) (s : RS) (hp : s.p ≤ t.size) (w : World) (h : w.heap[R]? = some (rO t s)) :
    Calls Tryz.prog 32 #[.pointer (some ⟨R, 0, none⟩)] w (RdEnd R t (endP t s) w (.tuple #[])) := by
  have hz := exz_size (t := t) (p := s.p) (q := t.size) (Nat.le_refl _)
  have HFA := Lib.hid (fail_any R t s 8 w h)
  obtain ⟨c0, c1, f0, f1⟩ := two_c h
  have H := Lib.hid h
  have HG := Lib.hid (World.grownBy.refl w (some R))
  by_cases he : s.p = t.size
  · have HE : Hid (endP t s = s) := Lib.hid (if_pos he)
    have hU : t.extract s.p t.size = ⟨#[]⟩ := by
      apply ByteArray.ext
      apply Array.eq_empty_of_size_eq_zero
      show (t.extract s.p t.size).size = 0
      omega
    rw [hU] at c0
    clear hU hz he
    go_enter Tryz.func32, Tryz.ntmps32
    go_wp2
    go_end0
    exact ⟨rfl, by rw [HE.out]; exact H.out, HG.out⟩
  · have HE : Hid (endP t s = failP 8 s) := Lib.hid (if_neg he)
    have hU : ¬ (t.extract s.p t.size).toList = [] := by
      rw [ByteArray.toList_eq]
      intro e
      have := congrArg List.length e
      rw [size_list, hz] at this
      simp at this
      omega
    generalize t.extract s.p t.size = U at *
    have hU2 : (!U.toList.isEmpty) = true := by
      cases q : U.toList with
      | nil => exact absurd q hU
      | cons a b => rfl
    clear hz he
    go_enter Tryz.func32, Tryz.ntmps32
    go_wp2_with fail
    refine Calls.mono HFA.out ?_
    rintro e w2 ⟨rfl, ho2, hg2⟩
    have HO2 := Lib.hid ho2
    have HG2 := Lib.hid hg2
    clear ho2 hg2
    go_wp2
    go_end0
    exact ⟨rfl, by rw [HE.out]; exact HO2.out, HG2.out⟩
end Go.Proofs.YtmpppfibeoghaaaGreatDoor
namespace Go.Proofs.YtmpppfibeoghaaaGreatDoor
open Go.ChangeShapes Go.WideShapes Go.ChangeAt Go.RowKit Go.PlainAid
set_option linter.unusedVariables false
theorem own_nR {w : World} {B size n R : Nat} {v : Value} {xs : List Value} {t : ByteArray} {s : RS} (h : w.ownsRow B 128 size v n xs) (hp : w.heap[R]? = some (rO t s)) : v.ownBlock ≠ some R := own_ne h hp (by decide)
theorem readF_nil : readF ⟨#[]⟩ = ([], 0) := by
  have := readF_code [] rfl (by decide)
  exact this
theorem cod_off {t : ByteArray} {s : RS} (h : codOff t s) : codP t s = [] ∧ codS t s = failP 16 (numS t 2 s) := by
  unfold codP codS
  rw [if_pos h, if_pos h]
  exact ⟨rfl, rfl⟩
theorem cod_ok {t : ByteArray} {s : RS} (h : ¬ codOff t s) : codP t s = (readF (codT t s)).1 ∧ codS t s = ⟨(numS t 2 s).p + (numP t 2 s).toNat, (readF (codT t s)).2⟩ := by
  unfold codP codS
  rw [if_neg h, if_neg h]
  exact ⟨rfl, rfl⟩
theorem num2_rng (t : ByteArray) (s : RS) : -32768 ≤ numP t 2 s ∧ numP t 2 s ≤ 32767 := by
  unfold numP
  split
  · omega
  · show -32768 ≤ takeF t s.p 2 ∧ takeF t s.p 2 ≤ 32767
    rw [takeF_2]
    unfold raw2
    have h1 := bt_nonneg t s.p
    have h2 := bt_le t s.p
    have h3 := bt_nonneg t (s.p + 1)
    have h4 := bt_le t (s.p + 1)
    split <;> omega
def CdEnd (R : Nat) (t : ByteArray) (s : RS) (L : List Ins) (w : World) (e : Ending) (w' : World) : Prop :=
  ∃ v, e = .returned v ∧ w'.ownsRow w.heap.size 128 2 v L.length (flat insC L) ∧ w'.heap[R]? = some (rO t s) ∧ w.grownBy w' (some R)
set_option maxRecDepth 100000 in
set_option maxHeartbeats 2000000 in
theorem code_any (R : Nat) (t : ByteArray) (s : RS) (hp : s.p ≤ t.size) (ht : t.size ≤ 65536) (aR bE : Addr) (w : World) (hS : ∀ X, w.grownBy X (some R) → OpTab X ∧ Sent X aR bE) (h : w.heap[R]? = some (rO t s)) :
    Calls Tryz.prog 90 #[.pointer (some ⟨R, 0, none⟩)] w (CdEnd R t (codS t s) (codP t s) w) := by
  have hRw : R < w.heap.size := (Array.getElem?_eq_some_iff.1 h).1
  have HN := Lib.hid (fun X (hg : w.grownBy X (some R)) hx => number_any R t s 2 (.inr (.inl rfl)) hp ht aR bE X (fun Y hY => (hS Y (row_tr hg hY)).2) hx)
  have hp1 := numS_le (t := t) (k := 2) hp
  have hr := num2_rng t s
  have HRC := Lib.hid (fun (u : ByteArray) (hu : u.size ≤ 65536) X (hg : w.grownBy X (some R)) => readCode_any u (by unfold maxLen; omega) X X aR bE (hS X hg).1 (hS X hg).2 (Below.refl _ _))
  have HO := Lib.hid (show w.drew.heap[R]? = some (rO t s) from h)
  have HG := Lib.hid (rdg_drew (R := R) w)
  clear h hS
  by_cases ho : codOff t s
  · have HE := Lib.hid (cod_off ho)
    have HT := Lib.hid (fun X hx => take_no R t (numS t 2 s) (numP t 2 s) hp1 ht (by omega) (by
      unfold codOff at ho
      rcases ho with q | q
      · exact .inl q
      · exact .inr (by unfold tooP; omega)) X hx)
    have hst : (if tooP t (numP t 2 s) (numS t 2 s) then failP 16 (numS t 2 s) else numS t 2 s) = failP 16 (numS t 2 s) := by
      by_cases q : tooP t (numP t 2 s) (numS t 2 s)
      · rw [if_pos q]
      · rw [if_neg q]
        have : (numS t 2 s).c ≠ 0 := by
          unfold codOff at ho
          rcases ho with a | a
          · exact a
          · exact absurd (show tooP t (numP t 2 s) (numS t 2 s) by unfold tooP; omega) q
        unfold failP
        rw [if_neg this]
    rw [hst, ← HE.out.2] at HT
    have HRE := Lib.hid (HRC.out ⟨#[]⟩ (by decide))
    rw [readF_nil] at HRE
    have HL : Hid (codP t s = []) := Lib.hid HE.out.1
    clear ho hst hp1 hr HRC HE
    generalize codS t s = s2 at *
    generalize codP t s = L at *
    generalize numP t 2 s = n at *
    generalize numS t 2 s = s1 at *
    go_enter Tryz.func90, Tryz.ntmps90
    go_wp2
    refine wp_region_hl 13 (fun X => True) (by kernel_rfl) rfl rfl (by kernel_rfl) ?_
    refine hl_take (v := ?va0) 0 rfl (by kernel_rfl) (fun _ _ _ h => h) (Or.inl ⟨by rfl, ?hya0⟩) trivial ?resta0
    case hya0 =>
      intro X hSw
      go_simp <;> with_reducible rfl
    try simp only [Act.put, List.setIfInBounds_toArray, List.set_cons_zero, List.set_cons_succ]
    refine hl_take (v := ?va1) 1 rfl (by kernel_rfl) (fun _ _ _ h => h) (Or.inl ⟨by rfl, ?hya1⟩) trivial ?resta1
    case hya1 =>
      intro X hSw
      go_simp <;> with_reducible rfl
    try simp only [Act.put, List.setIfInBounds_toArray, List.set_cons_zero, List.set_cons_succ]
    refine hl_take (v := ?va2) 2 rfl (by kernel_rfl) (fun _ _ _ h => h) (Or.inl ⟨by rfl, ?hya2⟩) trivial ?resta2
    case hya2 =>
      intro X hSw
      go_simp <;> with_reducible rfl
    try simp only [Act.put, List.setIfInBounds_toArray, List.set_cons_zero, List.set_cons_succ]
    refine hl_take (v := ?va3) 3 rfl (by kernel_rfl) (fun _ _ _ h => h) (Or.inl ⟨by rfl, ?hya3⟩) trivial ?resta3
    case hya3 =>
      intro X hSw
      go_simp <;> with_reducible rfl
    try simp only [Act.put, List.setIfInBounds_toArray, List.set_cons_zero, List.set_cons_succ]
    refine hl_take (v := ?va4) 4 rfl (by kernel_rfl) (fun _ _ _ h => h) (Or.inl ⟨by rfl, ?hya4⟩) trivial ?resta4
    case hya4 =>
      intro X hSw
      go_simp <;> with_reducible rfl
    try simp only [Act.put, List.setIfInBounds_toArray, List.set_cons_zero, List.set_cons_succ]
    refine hl_take (v := ?va5) 5 rfl (by kernel_rfl) (fun _ _ _ h => h) (Or.inl ⟨by rfl, ?hya5⟩) trivial ?resta5
    case hya5 =>
      intro X hSw
      go_simp <;> with_reducible rfl
    try simp only [Act.put, List.setIfInBounds_toArray, List.set_cons_zero, List.set_cons_succ]
    refine hl_one 6 rfl (by kernel_rfl) (fun K hK => ?_)
    go_simp
    refine Calls.mono (HN.out _ HG.out HO.out) ?_
    rintro e u6 ⟨rfl, ho, hg⟩
    refine hK.out _ _ trivial ?_
    have HO := Lib.hid ho
    have HG := Lib.hid (row_tr HG.out hg)
    clear hK ho hg
    try simp only [Act.put, List.setIfInBounds_toArray, List.set_cons_zero, List.set_cons_succ]
    refine hl_one 7 rfl (by kernel_rfl) (fun K hK => ?_)
    go_simp
    refine Calls.mono (HT.out _ HO.out) ?_
    rintro e u7 ⟨rfl, ho, hg⟩
    refine hK.out _ _ trivial ?_
    have HO := Lib.hid ho
    have HG := Lib.hid (row_tr HG.out hg)
    clear hK ho hg
    try simp only [Act.put, List.setIfInBounds_toArray, List.set_cons_zero, List.set_cons_succ]
    refine hl_one 8 rfl (by kernel_rfl) (fun K hK => ?_)
    go_simp
    refine Calls.mono (HRE.out _ HG.out) ?_
    rintro e u8 ⟨v, rfl, hv, hb⟩
    refine hK.out _ _ trivial ?_
    have HV := Lib.hid (own_base hv HG.out.size)
    have HO := Lib.hid (blk_bel HO.out hb)
    have HG := Lib.hid (row_tr HG.out (rdg_bel (R := R) hb))
    clear hK hv hb
    try simp only [Act.put, List.setIfInBounds_toArray, List.set_cons_zero, List.set_cons_succ]
    refine hl_take (v := ?va9) 9 rfl (by kernel_rfl) (fun _ _ _ h => h) (Or.inl ⟨by rfl, ?hya9⟩) trivial ?resta9
    case hya9 =>
      intro X hSw
      go_simp <;> with_reducible rfl
    try simp only [Act.put, List.setIfInBounds_toArray, List.set_cons_zero, List.set_cons_succ]
    refine hl_take (v := ?va10) 10 rfl (by kernel_rfl) (fun _ _ _ h => h) (Or.inl ⟨by rfl, ?hya10⟩) trivial ?resta10
    case hya10 =>
      intro X hSw
      go_simp <;> with_reducible rfl
    try simp only [Act.put, List.setIfInBounds_toArray, List.set_cons_zero, List.set_cons_succ]
    refine hl_take (v := ?va11) 11 rfl (by kernel_rfl) (fun _ _ _ h => h) (Or.inl ⟨by rfl, ?hya11⟩) trivial ?resta11
    case hya11 =>
      intro X hSw
      go_simp <;> with_reducible rfl
    try simp only [Act.put, List.setIfInBounds_toArray, List.set_cons_zero, List.set_cons_succ]
    refine hl_take (v := ?va12) 12 rfl (by kernel_rfl) (fun _ _ _ h => h) (Or.inl ⟨by rfl, ?hya12⟩) trivial ?resta12
    case hya12 =>
      intro X hSw
      go_simp <;> with_reducible rfl
    try simp only [Act.put, List.setIfInBounds_toArray, List.set_cons_zero, List.set_cons_succ]
    refine hl_done (by kernel_rfl) ?_
    go_simp
    go_wp2
    go_ret
    exact ⟨v, rfl, by rw [HL.out]; exact HV.out, HO.out, HG.out⟩
  · have HE := Lib.hid (cod_ok ho)
    obtain ⟨h1, h2, h3⟩ : (numS t 2 s).c = 0 ∧ 0 ≤ numP t 2 s ∧ (numS t 2 s).p + (numP t 2 s).toNat ≤ t.size := by
      unfold codOff at ho
      refine ⟨?_, by omega, by omega⟩
      by_cases q : (numS t 2 s).c = 0
      · exact q
      · exact absurd (.inl q) ho
    have HT := Lib.hid (fun X hx => take_ok R t (numS t 2 s) (numP t 2 s).toNat h1 h3 ht X hx)
    have hcs : (codT t s).size ≤ 65536 := by
      unfold codT
      rw [exz_size h3]
      omega
    have HRE := Lib.hid (HRC.out (codT t s) hcs)
    have hct : t.extract (numS t 2 s).p ((numS t 2 s).p + (numP t 2 s).toNat) = codT t s := rfl
    rw [hct, Int.toNat_of_nonneg h2] at HT
    have HFA := Lib.hid (fun c X hx => fail_any R t ⟨(numS t 2 s).p + (numP t 2 s).toNat, 0⟩ c X hx)
    have HFS : Hid (∀ c, failP c ⟨(numS t 2 s).p + (numP t 2 s).toNat, 0⟩ = ⟨(numS t 2 s).p + (numP t 2 s).toNat, c⟩) := Lib.hid (fun c => by unfold failP; rw [if_pos rfl])
    have HL : Hid (codP t s = (readF (codT t s)).1) := Lib.hid HE.out.1
    have HS2 : Hid (codS t s = ⟨(numS t 2 s).p + (numP t 2 s).toNat, (readF (codT t s)).2⟩) := Lib.hid HE.out.2
    clear ho hp1 hr HRC HE h1 h2 h3 hcs hct
    generalize codS t s = s2 at *
    generalize codP t s = L at *
    generalize (numS t 2 s).p + (numP t 2 s).toNat = q at *
    generalize numP t 2 s = n at *
    generalize numS t 2 s = s1 at *
    generalize codT t s = U at *
    generalize readF U = RR at *
    obtain ⟨zs, c⟩ := RR
    dsimp only at HRE HL HS2
    by_cases hc : c = 0
    · subst hc
      go_enter Tryz.func90, Tryz.ntmps90
      go_wp2
      refine wp_region_hl 13 (fun X => True) (by kernel_rfl) rfl rfl (by kernel_rfl) ?_
      refine hl_take (v := ?vb0) 0 rfl (by kernel_rfl) (fun _ _ _ h => h) (Or.inl ⟨by rfl, ?hyb0⟩) trivial ?restb0
      case hyb0 =>
        intro X hSw
        go_simp <;> with_reducible rfl
      try simp only [Act.put, List.setIfInBounds_toArray, List.set_cons_zero, List.set_cons_succ]
      refine hl_take (v := ?vb1) 1 rfl (by kernel_rfl) (fun _ _ _ h => h) (Or.inl ⟨by rfl, ?hyb1⟩) trivial ?restb1
      case hyb1 =>
        intro X hSw
        go_simp <;> with_reducible rfl
      try simp only [Act.put, List.setIfInBounds_toArray, List.set_cons_zero, List.set_cons_succ]
      refine hl_take (v := ?vb2) 2 rfl (by kernel_rfl) (fun _ _ _ h => h) (Or.inl ⟨by rfl, ?hyb2⟩) trivial ?restb2
      case hyb2 =>
        intro X hSw
        go_simp <;> with_reducible rfl
      try simp only [Act.put, List.setIfInBounds_toArray, List.set_cons_zero, List.set_cons_succ]
      refine hl_take (v := ?vb3) 3 rfl (by kernel_rfl) (fun _ _ _ h => h) (Or.inl ⟨by rfl, ?hyb3⟩) trivial ?restb3
      case hyb3 =>
        intro X hSw
        go_simp <;> with_reducible rfl
      try simp only [Act.put, List.setIfInBounds_toArray, List.set_cons_zero, List.set_cons_succ]
      refine hl_take (v := ?vb4) 4 rfl (by kernel_rfl) (fun _ _ _ h => h) (Or.inl ⟨by rfl, ?hyb4⟩) trivial ?restb4
      case hyb4 =>
        intro X hSw
        go_simp <;> with_reducible rfl
      try simp only [Act.put, List.setIfInBounds_toArray, List.set_cons_zero, List.set_cons_succ]
      refine hl_take (v := ?vb5) 5 rfl (by kernel_rfl) (fun _ _ _ h => h) (Or.inl ⟨by rfl, ?hyb5⟩) trivial ?restb5
      case hyb5 =>
        intro X hSw
        go_simp <;> with_reducible rfl
      try simp only [Act.put, List.setIfInBounds_toArray, List.set_cons_zero, List.set_cons_succ]
      refine hl_one 6 rfl (by kernel_rfl) (fun K hK => ?_)
      go_simp
      refine Calls.mono (HN.out _ HG.out HO.out) ?_
      rintro e u6 ⟨rfl, ho, hg⟩
      refine hK.out _ _ trivial ?_
      have HO := Lib.hid ho
      have HG := Lib.hid (row_tr HG.out hg)
      clear hK ho hg
      try simp only [Act.put, List.setIfInBounds_toArray, List.set_cons_zero, List.set_cons_succ]
      refine hl_one 7 rfl (by kernel_rfl) (fun K hK => ?_)
      go_simp
      refine Calls.mono (HT.out _ HO.out) ?_
      rintro e u7 ⟨rfl, ho, hg⟩
      refine hK.out _ _ trivial ?_
      have HO := Lib.hid ho
      have HG := Lib.hid (row_tr HG.out hg)
      clear hK ho hg
      try simp only [Act.put, List.setIfInBounds_toArray, List.set_cons_zero, List.set_cons_succ]
      refine hl_one 8 rfl (by kernel_rfl) (fun K hK => ?_)
      go_simp
      refine Calls.mono (HRE.out _ HG.out) ?_
      rintro e u8 ⟨v, rfl, hv, hb⟩
      refine hK.out _ _ trivial ?_
      have HV := Lib.hid (own_base hv HG.out.size)
      have HO := Lib.hid (blk_bel HO.out hb)
      have HG := Lib.hid (row_tr HG.out (rdg_bel (R := R) hb))
      clear hK hv hb
      try simp only [Act.put, List.setIfInBounds_toArray, List.set_cons_zero, List.set_cons_succ]
      refine hl_take (v := ?vb9) 9 rfl (by kernel_rfl) (fun _ _ _ h => h) (Or.inl ⟨by rfl, ?hyb9⟩) trivial ?restb9
      case hyb9 =>
        intro X hSw
        go_simp <;> with_reducible rfl
      try simp only [Act.put, List.setIfInBounds_toArray, List.set_cons_zero, List.set_cons_succ]
      refine hl_take (v := ?vb10) 10 rfl (by kernel_rfl) (fun _ _ _ h => h) (Or.inl ⟨by rfl, ?hyb10⟩) trivial ?restb10
      case hyb10 =>
        intro X hSw
        go_simp <;> with_reducible rfl
      try simp only [Act.put, List.setIfInBounds_toArray, List.set_cons_zero, List.set_cons_succ]
      refine hl_take (v := ?vb11) 11 rfl (by kernel_rfl) (fun _ _ _ h => h) (Or.inl ⟨by rfl, ?hyb11⟩) trivial ?restb11
      case hyb11 =>
        intro X hSw
        go_simp <;> with_reducible rfl
      try simp only [Act.put, List.setIfInBounds_toArray, List.set_cons_zero, List.set_cons_succ]
      refine hl_take (v := ?vb12) 12 rfl (by kernel_rfl) (fun _ _ _ h => h) (Or.inl ⟨by rfl, ?hyb12⟩) trivial ?restb12
      case hyb12 =>
        intro X hSw
        go_simp <;> with_reducible rfl
      try simp only [Act.put, List.setIfInBounds_toArray, List.set_cons_zero, List.set_cons_succ]
      refine hl_done (by kernel_rfl) ?_
      go_simp
      go_wp2
      go_ret
      exact ⟨v, rfl, by rw [HL.out]; exact HV.out, by rw [HS2.out]; exact HO.out, HG.out⟩
    · have hcb : (c != 0) = true := by rw [bne_iff_ne]; exact hc
      clear hc
      go_enter Tryz.func90, Tryz.ntmps90
      go_wp2
      refine wp_region_hl 13 (fun X => True) (by kernel_rfl) rfl rfl (by kernel_rfl) ?_
      refine hl_take (v := ?vc0) 0 rfl (by kernel_rfl) (fun _ _ _ h => h) (Or.inl ⟨by rfl, ?hyc0⟩) trivial ?restc0
      case hyc0 =>
        intro X hSw
        go_simp <;> with_reducible rfl
      try simp only [Act.put, List.setIfInBounds_toArray, List.set_cons_zero, List.set_cons_succ]
      refine hl_take (v := ?vc1) 1 rfl (by kernel_rfl) (fun _ _ _ h => h) (Or.inl ⟨by rfl, ?hyc1⟩) trivial ?restc1
      case hyc1 =>
        intro X hSw
        go_simp <;> with_reducible rfl
      try simp only [Act.put, List.setIfInBounds_toArray, List.set_cons_zero, List.set_cons_succ]
      refine hl_take (v := ?vc2) 2 rfl (by kernel_rfl) (fun _ _ _ h => h) (Or.inl ⟨by rfl, ?hyc2⟩) trivial ?restc2
      case hyc2 =>
        intro X hSw
        go_simp <;> with_reducible rfl
      try simp only [Act.put, List.setIfInBounds_toArray, List.set_cons_zero, List.set_cons_succ]
      refine hl_take (v := ?vc3) 3 rfl (by kernel_rfl) (fun _ _ _ h => h) (Or.inl ⟨by rfl, ?hyc3⟩) trivial ?restc3
      case hyc3 =>
        intro X hSw
        go_simp <;> with_reducible rfl
      try simp only [Act.put, List.setIfInBounds_toArray, List.set_cons_zero, List.set_cons_succ]
      refine hl_take (v := ?vc4) 4 rfl (by kernel_rfl) (fun _ _ _ h => h) (Or.inl ⟨by rfl, ?hyc4⟩) trivial ?restc4
      case hyc4 =>
        intro X hSw
        go_simp <;> with_reducible rfl
      try simp only [Act.put, List.setIfInBounds_toArray, List.set_cons_zero, List.set_cons_succ]
      refine hl_take (v := ?vc5) 5 rfl (by kernel_rfl) (fun _ _ _ h => h) (Or.inl ⟨by rfl, ?hyc5⟩) trivial ?restc5
      case hyc5 =>
        intro X hSw
        go_simp <;> with_reducible rfl
      try simp only [Act.put, List.setIfInBounds_toArray, List.set_cons_zero, List.set_cons_succ]
      refine hl_one 6 rfl (by kernel_rfl) (fun K hK => ?_)
      go_simp
      refine Calls.mono (HN.out _ HG.out HO.out) ?_
      rintro e u6 ⟨rfl, ho, hg⟩
      refine hK.out _ _ trivial ?_
      have HO := Lib.hid ho
      have HG := Lib.hid (row_tr HG.out hg)
      clear hK ho hg
      try simp only [Act.put, List.setIfInBounds_toArray, List.set_cons_zero, List.set_cons_succ]
      refine hl_one 7 rfl (by kernel_rfl) (fun K hK => ?_)
      go_simp
      refine Calls.mono (HT.out _ HO.out) ?_
      rintro e u7 ⟨rfl, ho, hg⟩
      refine hK.out _ _ trivial ?_
      have HO := Lib.hid ho
      have HG := Lib.hid (row_tr HG.out hg)
      clear hK ho hg
      try simp only [Act.put, List.setIfInBounds_toArray, List.set_cons_zero, List.set_cons_succ]
      refine hl_one 8 rfl (by kernel_rfl) (fun K hK => ?_)
      go_simp
      refine Calls.mono (HRE.out _ HG.out) ?_
      rintro e u8 ⟨v, rfl, hv, hb⟩
      refine hK.out _ _ trivial ?_
      have HV := Lib.hid (own_base hv HG.out.size)
      have HO := Lib.hid (blk_bel HO.out hb)
      have HG := Lib.hid (row_tr HG.out (rdg_bel (R := R) hb))
      clear hK hv hb
      try simp only [Act.put, List.setIfInBounds_toArray, List.set_cons_zero, List.set_cons_succ]
      refine hl_take (v := ?vc9) 9 rfl (by kernel_rfl) (fun _ _ _ h => h) (Or.inl ⟨by rfl, ?hyc9⟩) trivial ?restc9
      case hyc9 =>
        intro X hSw
        go_simp <;> with_reducible rfl
      try simp only [Act.put, List.setIfInBounds_toArray, List.set_cons_zero, List.set_cons_succ]
      refine hl_take (v := ?vc10) 10 rfl (by kernel_rfl) (fun _ _ _ h => h) (Or.inl ⟨by rfl, ?hyc10⟩) trivial ?restc10
      case hyc10 =>
        intro X hSw
        go_simp <;> with_reducible rfl
      try simp only [Act.put, List.setIfInBounds_toArray, List.set_cons_zero, List.set_cons_succ]
      refine hl_take (v := ?vc11) 11 rfl (by kernel_rfl) (fun _ _ _ h => h) (Or.inl ⟨by rfl, ?hyc11⟩) trivial ?restc11
      case hyc11 =>
        intro X hSw
        go_simp <;> with_reducible rfl
      try simp only [Act.put, List.setIfInBounds_toArray, List.set_cons_zero, List.set_cons_succ]
      refine hl_take (v := ?vc12) 12 rfl (by kernel_rfl) (fun _ _ _ h => h) (Or.inl ⟨by rfl, ?hyc12⟩) trivial ?restc12
      case hyc12 =>
        intro X hSw
        go_simp <;> with_reducible rfl
      try simp only [Act.put, List.setIfInBounds_toArray, List.set_cons_zero, List.set_cons_succ]
      refine hl_done (by kernel_rfl) ?_
      go_simp
      go_wp2_with fail
      refine Calls.mono (HFA.out c _ HO.out) ?_
      rintro e w9 ⟨rfl, ho9, hg9⟩
      have hne : v.ownBlock ≠ some R := own_nR HV.out HO.out
      have HV := Lib.hid (HV.out.kept hg9 (Or.inr hne))
      have HG := Lib.hid (row_tr HG.out hg9)
      rw [HFS.out] at ho9
      have HO := Lib.hid ho9
      clear ho9 hg9 hne
      go_wp2
      go_ret
      exact ⟨v, rfl, by rw [HL.out]; exact HV.out, by rw [HS2.out]; exact HO.out, HG.out⟩
end Go.Proofs.YtmpppfibeoghaaaGreatDoor
