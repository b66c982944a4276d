/- Frames and cores: what came in, the laws' sizes, copies, comparisons. -/
import Derived.Test.YtnehaidkhpjpbaaDoorGen
namespace Go.Proofs.YtnehaidkhpjpbaaDoor
open Go.ChangeShapes Go.WideShapes Go.ChangeAt Go.RowKit
set_option linter.unusedVariables false
/-- A frame: its routine, its place, its counters. -/
abbrev FM := Int × Int × List Int
def fm0 : FM := (0, 0, [])
/-- Its cells: the counters' row somewhere else. -/
abbrev FR := Int × Int × Option Addr × Nat × Nat
def fr0 : FR := (0, 0, none, 0, 0)
def frC (z : FR) : List Value := [.int .i64 z.1, .int .i64 z.2.1, .slice z.2.2.1 z.2.2.2.1 z.2.2.2.2]
theorem frC_len (z : FR) : (frC z).length = 3 := rfl
structure Frs (w : World) (a : Option Addr) (fs : List FM) : Prop where
  rows : ∃ rs : List FR, rs.length = fs.length ∧ Lies w a (flat frC rs) ∧ ∀ j, j < fs.length → (rs.getD j fr0).1 = (fs.getD j fm0).1 ∧ (rs.getD j fr0).2.1 = (fs.getD j fm0).2.1 ∧ (rs.getD j fr0).2.2.2.1 = (fs.getD j fm0).2.2.length ∧ Lies w (rs.getD j fr0).2.2.1 (kC (fs.getD j fm0).2.2)
theorem Frs.below {B : Nat} {w w' : World} {a : Option Addr} {fs : List FM} (h : Frs w a fs) (hb : Below B w w') (hB : w.heap.size ≤ B) : Frs w' a fs := by
  obtain ⟨rs, h1, h2, h3⟩ := h.rows
  exact ⟨rs, h1, h2.below hb hB, fun j hj => ⟨(h3 j hj).1, (h3 j hj).2.1, (h3 j hj).2.2.1, (h3 j hj).2.2.2.below hb hB⟩⟩
theorem Frs.at {w : World} {a : Option Addr} {fs : List FM} (h : Frs w a fs) {j : Nat} (hj : j < fs.length) : ∃ b o x c, a = some ⟨b, o, none⟩ ∧ b < w.heap.size ∧ w.cell? ⟨b, o + j * 3, none⟩ = some (.int .i64 (fs.getD j fm0).1) ∧ w.cell? ⟨b, o + j * 3 + 1, none⟩ = some (.int .i64 (fs.getD j fm0).2.1) ∧ w.cell? ⟨b, o + j * 3 + 2, none⟩ = some (.slice x (fs.getD j fm0).2.2.length c) ∧ Lies w x (kC (fs.getD j fm0).2.2) := by
  obtain ⟨rs, h1, h2, h3⟩ := h.rows
  obtain ⟨b, o, rfl, hb, hc⟩ := h2.open (by rw [flat_len frC_len]; omega)
  have hx : rs[j]? = some (rs.getD j fr0) := by simp [List.getD, h1, hj]
  have h0 := flat_at frC_len hx (j := 0) (by omega)
  have h4 := flat_at frC_len hx (j := 1) (by omega)
  have h5 := flat_at frC_len hx (j := 2) (by omega)
  obtain ⟨e1, e2, e3, e4⟩ := h3 j hj
  refine ⟨b, o, (rs.getD j fr0).2.2.1, (rs.getD j fr0).2.2.2.2, rfl, hb, ?_, ?_, ?_, e4⟩
  · rw [← e1]; exact hc (j * 3) _ h0
  · rw [← e2]; exact hc (j * 3 + 1) _ h4
  · rw [← e3]; exact hc (j * 3 + 2) _ h5
theorem Frs.nil (w : World) (a : Option Addr) : Frs w a [] := ⟨[], rfl, .inl rfl, fun j hj => by simp at hj⟩
def FrOK (W : World) (x : FR × FM) : Prop := x.1.1 = x.2.1 ∧ x.1.2.1 = x.2.2.1 ∧ x.1.2.2.2.1 = x.2.2.2.length ∧ Lies W x.1.2.2.1 (kC x.2.2.2) ∧ x.2.2.2.length ≤ maxLen
theorem cFrL : Tryd.prog.cellsOf 154 = 3 := by kernel_rfl
theorem cCorL : Tryd.prog.cellsOf 70 = 2 := by kernel_rfl
theorem cSlI : Tryd.prog.cellsOf 23 = 1 := by kernel_rfl
theorem cSlF : Tryd.prog.cellsOf 68 = 1 := by kernel_rfl
theorem came_fr {W : World} {cs : List Value} (h : Came Tryd.prog W 154 cs) : ∃ x : FR × FM, FrOK W x ∧ cs = frC x.1 := by
  obtain ⟨x0, x1, x2, rfl, h0, h1, h2⟩ := came_struct3 Tryd.underlying154 cFrL ⟨rfl, rfl, rfl⟩ ⟨cInt1, cInt1, cSlI⟩ h
  obtain ⟨r, e0, _⟩ := came_int Tryd.underlying3 h0
  obtain ⟨p, e1, _⟩ := came_int Tryd.underlying3 h1
  simp only [List.cons.injEq, and_true] at e0 e1
  subst e0 e1
  obtain ⟨a, n, c, rfl⟩ := came_slv Tryd.underlying23 h2
  obtain ⟨hm, _, l, e, z⟩ := came_ks h2
  exact ⟨((r, p, a, n, c), (r, p, l)), ⟨rfl, rfl, e.symm, z, by show l.length ≤ maxLen; omega⟩, rfl⟩
theorem came_frs {W : World} {a : Option Addr} {n c : Nat} (h : Came Tryd.prog W 68 [.slice a n c]) : n ≤ maxLen ∧ ∃ fs : List FM, fs.length = n ∧ Frs W a fs ∧ ∀ j, j < fs.length → (fs.getD j fm0).2.2.length ≤ maxLen := by
  obtain ⟨h1, _, zs, h3, h4⟩ := lies_came (α := {x : FR × FM // FrOK W x}) (fun x => frC x.1.1) (fun x => frC_len x.1.1) (by decide) Tryd.underlying68 cFrL (fun es g => by
    obtain ⟨x, hx, e⟩ := came_fr g
    exact ⟨⟨x, hx⟩, e⟩) h
  have hj : ∀ j, (hj : j < zs.length) → (zs.map fun x => x.1.2).getD j fm0 = zs[j].1.2 ∧ (zs.map fun x => x.1.1).getD j fr0 = zs[j].1.1 := fun j hj => by simp [List.getD, hj]
  refine ⟨h1, zs.map fun x => x.1.2, by simpa using h3, ⟨zs.map fun x => x.1.1, by simp, ?_, fun j h' => ?_⟩, fun j h' => ?_⟩
  · have : flat frC (zs.map fun x => x.1.1) = flat (fun x : {x : FR × FM // FrOK W x} => frC x.1.1) zs := by simp [flat, List.flatMap_map]
    rw [this]
    exact h4
  · simp only [List.length_map] at h'
    rw [(hj j h').1, (hj j h').2]
    exact ⟨zs[j].2.1, zs[j].2.2.1, zs[j].2.2.2.1, zs[j].2.2.2.2.1⟩
  · simp only [List.length_map] at h'
    rw [(hj j h').1]
    exact zs[j].2.2.2.2.2
/-- A core: its frames, its stack. -/
structure Cor where
  fr : List FM
  st : List Int
structure CH where
  a0 : Option Addr
  a1 : Option Addr
  c0 : Nat
  c1 : Nat
abbrev cV (h : CH) (C : Cor) : Value := .agg #[.slice h.a0 C.fr.length h.c0, .slice h.a1 C.st.length h.c1]
abbrev cO (h : CH) (C : Cor) (t : TypeId) : Obj := .cells #[.slice h.a0 C.fr.length h.c0, .slice h.a1 C.st.length h.c1] t
structure CLies (w : World) (h : CH) (C : Cor) : Prop where
  fr : Frs w h.a0 C.fr
  st : Lies w h.a1 (kC C.st)
theorem CLies.below {B : Nat} {w w' : World} {h : CH} {C : Cor} (l : CLies w h C) (g : Below B w w') (hB : w.heap.size ≤ B) : CLies w' h C := ⟨l.fr.below g hB, l.st.below g hB⟩
structure Cor.le (C : Cor) (n : Nat) : Prop where
  h0 : C.fr.length ≤ n
  h1 : C.st.length ≤ n
  h2 : ∀ j, j < C.fr.length → (C.fr.getD j fm0).2.2.length ≤ n
theorem Cor.le.mono {C : Cor} {m n : Nat} (h : C.le m) (g : m ≤ n) : C.le n := ⟨Nat.le_trans h.h0 g, Nat.le_trans h.h1 g, fun j hj => Nat.le_trans (h.h2 j hj) g⟩
theorem came_cor {W : World} {cs : Array Value} (h : Came Tryd.prog W 70 cs.toList) : ∃ (H : CH) (C : Cor), Value.agg cs = cV H C ∧ CLies W H C ∧ C.le maxLen := by
  obtain ⟨cs⟩ := cs
  obtain ⟨x0, x1, e, h0, h1⟩ := came_struct2 Tryd.underlying70 cCorL ⟨rfl, rfl⟩ ⟨cSlF, cSlI⟩ h
  simp only at e
  subst e
  obtain ⟨a0, n0, c0, rfl⟩ := came_slv Tryd.underlying68 h0
  obtain ⟨b0, fs, rfl, z0, l0⟩ := came_frs h0
  obtain ⟨a1, n1, c1, rfl⟩ := came_slv Tryd.underlying23 h1
  obtain ⟨b1, _, st, rfl, z1⟩ := came_ks h1
  exact ⟨⟨a0, a1, c0, c1⟩, ⟨fs, st⟩, rfl, ⟨z0, z1⟩, ⟨b0, b1, l0⟩⟩
end Go.Proofs.YtnehaidkhpjpbaaDoor
namespace Go.Proofs.YtnehaidkhpjpbaaDoor
open Go.ChangeShapes Go.WideShapes Go.ChangeAt Go.RowKit
set_option linter.unusedVariables false
theorem szFrame_ok (r p : Int) (a : Option Addr) (n c : Nat) (left : Int) (h : (n : Int) ≤ left) (hl : left ≤ 1048576) (w : World) : Calls Tryd.prog 114 #[.agg #[.int .i64 r, .int .i64 p, .slice a n c], .int .i64 left] w fun e w' => e = .returned (.int .i64 (left - n)) ∧ Below w.heap.size w w' := by
  have hd : ¬ (left - (n : Int) < 0) := by omega
  go_enter Tryd.func114, Tryd.ntmps114
  go_wp2_with (go_at_call 85; refine (szIntS_ok a n c left h hl _).mono ?_; rintro e w' ⟨rfl, rfl⟩)
  go_ret
  exact ⟨rfl, (Below.refl w.heap.size w).alloc (Nat.le_refl _) _⟩
theorem szFrame_no (r p : Int) (a : Option Addr) (n c : Nat) (left : Int) (hn : n ≤ maxLen) (h : left < (n : Int)) (hl : 0 ≤ left) (w : World) : Calls Tryd.prog 114 #[.agg #[.int .i64 r, .int .i64 p, .slice a n c], .int .i64 left] w fun e w' => e = .returned (.int .i64 (-1)) ∧ Below w.heap.size w w' := by
  go_enter Tryd.func114, Tryd.ntmps114
  go_wp2_with (go_at_call 85; refine (szIntS_no a n c left hn h hl _).mono ?_; rintro e w' ⟨rfl, rfl⟩)
  go_ret
  exact ⟨rfl, (Below.refl w.heap.size w).alloc (Nat.le_refl _) _⟩
/-- The counters of the first k frames. -/
def sumF (fs : List FM) (k : Nat) : Nat := ((fs.take k).map fun f => f.2.2.length).sum
theorem sumF_zero (fs : List FM) : sumF fs 0 = 0 := by simp [sumF]
theorem sumF_step {fs : List FM} {k : Nat} (h : k < fs.length) : sumF fs (k + 1) = sumF fs k + (fs.getD k fm0).2.2.length := by
  unfold sumF
  have e : fs.take (k + 1) = fs.take k ++ [fs[k]] := by rw [List.take_add_one, List.getElem?_eq_getElem h]; rfl
  rw [e, List.map_append, List.sum_append]
  simp [List.getD, h]
theorem sumF_mono {fs : List FM} {k : Nat} : ∀ {m : Nat}, k ≤ m → m ≤ fs.length → sumF fs k ≤ sumF fs m
  | 0, h, _ => by obtain rfl : k = 0 := by omega
                  exact Nat.le_refl _
  | m + 1, h, hm => by
    by_cases e : k = m + 1
    · rw [e]; exact Nat.le_refl _
    · rw [sumF_step (by omega)]
      have := sumF_mono (fs := fs) (m := m) (by omega : k ≤ m) (by omega)
      omega
theorem sumF_each {fs : List FM} {k : Nat} (h : k < fs.length) : (fs.getD k fm0).2.2.length ≤ sumF fs fs.length := by
  have h1 := sumF_step h
  have h2 := sumF_mono (fs := fs) (k := k + 1) (m := fs.length) (by omega) (Nat.le_refl _)
  omega
def SzFPost (fs : List FM) (left : Int) (w : World) (e : Ending) (w' : World) : Prop := ∃ v : Int, e = .returned (.int .i64 v) ∧ Below w.heap.size w w' ∧ (v = -1 ∨ 0 ≤ v ∧ v = left - fs.length - sumF fs fs.length)
theorem szFrameS_any (fs : List FM) (a : Option Addr) (c : Nat) (left : Int) (hl0 : 0 ≤ left ∧ left ≤ 1048576) (hm : fs.length ≤ maxLen) (hl : ∀ j, j < fs.length → (fs.getD j fm0).2.2.length ≤ maxLen) (w : World) (hz : Frs w a fs) :
    Calls Tryd.prog 84 #[.slice a fs.length c, .int .i64 left] w (SzFPost fs left w) := by
  have HM := Lib.hid hl
  have HZ := Lib.hid hz
  have HA := Lib.hid (fun w (h : Frs w a fs) j (hj : j < fs.length) => h.at hj)
  have HNO : Hid (∀ w', Below w.heap.size w w' → SzFPost fs left w (.returned (.int .i64 (-1))) w') := Lib.hid (fun w' hb => ⟨-1, rfl, hb, .inl rfl⟩)
  have HOK : Hid (∀ (v : Int) w', 0 ≤ v → v = left - fs.length - sumF fs fs.length → Below w.heap.size w w' → SzFPost fs left w (.returned (.int .i64 v)) w') := Lib.hid (fun v w' h1 h2 hb => ⟨v, rfl, hb, .inr ⟨h1, h2⟩⟩)
  have HS := Lib.hid (fun k (h : k < fs.length) => sumF_step h)
  have HS0 := Lib.hid (sumF_zero fs)
  unfold maxLen at hm
  clear hl hz
  generalize SzFPost fs left w = POST at *
  generalize sumF fs = S at *
  generalize hL : fs.length = n at *
  have HL := Lib.hid hL
  clear hL
  obtain ⟨hle0, hle1⟩ := hl0
  by_cases h1 : left < n
  · have h11 : left - (n : Int) < 0 := by omega
    go_enter Tryd.func84, Tryd.ntmps84
    go_wp2
    exact HNO.out _ (Below.refl _ _)
  have h0 : (0 : Int) ≤ left - n := by omega
  have h01 : ¬ (left - (n : Int) < 0) := by omega
  go_enter Tryd.func84, Tryd.ntmps84
  go_wp2
  go_loopw [1, 5] (fun q i wr => ∃ (j : Nat) (l : Int), j ≤ n ∧ i = .int .i64 j ∧ q = .int .i64 l ∧ 0 ≤ l ∧ l ≤ left ∧ Hid (l = left - n - S j) ∧ Hid (Below w.heap.size w wr)) (fun _ i _ => n - (intOf i).toNat)
  case atStart => exact ⟨0, left - n, Nat.zero_le _, rfl, rfl, h0, by omega, Lib.hid (by rw [HS0.out]; omega), Lib.hid (Below.refl _ _)⟩
  case round =>
    obtain ⟨j, l, hj, rfl, rfl, hl0, hl1, hr, hb⟩ := hrel
    by_cases hlt : j < n
    · obtain ⟨b, o, x, c2, rfl, hbl, hc0, hc1, hc2, _⟩ := HA.out w HZ.out j hlt
      have d0 := (hb.out.cell (p := ⟨b, o + j * 3, none⟩) hbl).trans hc0
      have d1 := (hb.out.cell (p := ⟨b, o + j * 3 + 1, none⟩) hbl).trans hc1
      have d2 := (hb.out.cell (p := ⟨b, o + j * 3 + 2, none⟩) hbl).trans hc2
      have HMj := Lib.hid (HM.out j hlt)
      have HX : Hid (S (j + 1) = S j + (fs.getD j fm0).2.2.length) := Lib.hid (HS.out j hlt)
      clear hc0 hc1 hc2
      generalize (fs.getD j fm0).2.2.length = m at *
      generalize (fs.getD j fm0).1 = r at *
      generalize (fs.getD j fm0).2.1 = p at *
      by_cases h2 : (m : Int) ≤ l
      · have HX2 : Hid (l - m = left - n - (S (j + 1) : Nat)) := Lib.hid (by rw [HX.out, hr.out]; omega)
        have hp : ¬ (l - (m : Int) < 0) := by omega
        go_wp2_with fail
        refine Calls.mono (szFrame_ok r p x m c2 l h2 (by omega) _) ?_
        rintro e w2 ⟨rfl, hb2⟩
        have Hb2 := Lib.hid (hb.out.trans (hb2.mono hb.out.size))
        clear hb2 d0 d1 d2
        go_wp2
        go_roundw
        case rel => exact ⟨j + 1, l - m, by omega, by go_num, rfl, by omega, by omega, HX2, Hb2⟩
        case measure => simp [intOf]; omega
      · have h3 : l < (m : Int) := by omega
        go_wp2_with fail
        refine Calls.mono (szFrame_no r p x m c2 l HMj.out h3 hl0 _) ?_
        rintro e w2 ⟨rfl, hb2⟩
        have Hb2 := Lib.hid (hb.out.trans (hb2.mono hb.out.size))
        clear hb2 d0 d1 d2
        go_wp2
        exact HNO.out _ Hb2.out
    · obtain rfl : j = n := by omega
      go_wp2
      exact HOK.out _ _ hl0 hr.out hb.out
def SzCPost (C : Cor) (left : Int) (w : World) (e : Ending) (w' : World) : Prop := ∃ v : Int, e = .returned (.int .i64 v) ∧ Below w.heap.size w w' ∧ (v = -1 ∨ 0 ≤ v ∧ v ≤ left ∧ C.fr.length + sumF C.fr C.fr.length + C.st.length ≤ 1048576)
set_option maxRecDepth 100000 in
set_option maxHeartbeats 1000000 in
theorem szCore_any (h : CH) (C : Cor) (left : Int) (hl0 : 0 ≤ left ∧ left ≤ 1048576) (hm : C.le maxLen) (w : World) (hz : CLies w h C) : Calls Tryd.prog 46 #[cV h C, .int .i64 left] w (SzCPost C left w) := by
  have HA := Lib.hid ((Below.refl w.heap.size w).alloc (Nat.le_refl _) (cO h C 70))
  have HF := Lib.hid (fun w hz => szFrameS_any C.fr h.a0 h.c0 left hl0 hm.h0 hm.h2 w hz)
  have HZ := Lib.hid (hz.below (dbox w (cO h C 70)) (Nat.le_refl _))
  have HM := Lib.hid hm.h1
  have HNO : Hid (∀ w', Below w.heap.size w w' → SzCPost C left w (.returned (.int .i64 (-1))) w') := Lib.hid (fun w' hb => ⟨-1, rfl, hb, .inl rfl⟩)
  have HOK : Hid (∀ (v : Int) w', 0 ≤ v → v = left - C.fr.length - sumF C.fr C.fr.length - C.st.length → Below w.heap.size w w' → SzCPost C left w (.returned (.int .i64 v)) w') := Lib.hid (fun v w' h1 h2 hb => ⟨v, rfl, hb, .inr ⟨h1, by omega, by omega⟩⟩)
  clear hz hm
  generalize SzCPost C left w = POST at *
  go_enter Tryd.func46, Tryd.ntmps46
  go_wp2_with fail
  refine Calls.mono (HF.out _ HZ.out.fr) ?_
  rintro e w1 ⟨v, rfl, hb1, hv⟩
  have HB1 := Lib.hid (HA.out.trans (hb1.mono HA.out.size))
  have HX1 := Lib.hid (blk_bel (heap_alloc_new w (cO h C 70)) hb1)
  clear hb1
  rcases hv with rfl | ⟨hv0, hv1⟩
  · go_wp2
    exact HNO.out _ HB1.out
  have hv2 : ¬ v < 0 := by omega
  have hvl : v ≤ 1048576 := by omega
  have HV := Lib.hid hv1
  clear hv1
  have q1 := cell_of_row w1 w.heap.size 1 _ _ _ HX1.out
  by_cases hs : (C.st.length : Int) ≤ v
  · have hs2 : ¬ v - (C.st.length : Int) < 0 := by omega
    go_wp2_with fail
    refine Calls.mono (szIntS_ok h.a1 C.st.length h.c1 v hs (by omega) _) ?_
    rintro e w' ⟨rfl, rfl⟩
    go_wp2
    exact HOK.out _ _ (by omega) (by rw [HV.out]) HB1.out
  · go_wp2_with fail
    refine Calls.mono (szIntS_no h.a1 C.st.length h.c1 v HM.out (by omega) (by omega) _) ?_
    rintro e w' ⟨rfl, rfl⟩
    go_wp2
    exact HNO.out _ HB1.out
end Go.Proofs.YtnehaidkhpjpbaaDoor
