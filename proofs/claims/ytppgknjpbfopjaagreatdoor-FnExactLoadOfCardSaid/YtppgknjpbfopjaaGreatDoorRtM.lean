/- Lists of routines in the call's own memory: sized, copied, marked. -/
import Derived.Test.YtppgknjpbfopjaaGreatDoorAll4
import Derived.Test.YtppgknjpbfopjaaGreatDoorGen
namespace Go.Proofs.YtppgknjpbfopjaaGreatDoor
open Go.ChangeShapes Go.WideShapes Go.ChangeAt Go.RowKit
set_option linter.unusedVariables false
/-- The instructions of the first k routines. -/
def sumL (ls : List (List Ins)) (k : Nat) : Nat := ((ls.take k).map List.length).sum
theorem sumL_zero (ls : List (List Ins)) : sumL ls 0 = 0 := by simp [sumL]
theorem sumL_step {ls : List (List Ins)} {k : Nat} (h : k < ls.length) : sumL ls (k + 1) = sumL ls k + (ls.getD k []).length := by
  unfold sumL
  have e : ls.take (k + 1) = ls.take k ++ [ls[k]] := by rw [List.take_add_one, List.getElem?_eq_getElem h]; rfl
  rw [e, List.map_append, List.sum_append]
  simp [List.getD, h]
theorem sumL_mono {ls : List (List Ins)} {k : Nat} : ∀ {m : Nat}, k ≤ m → m ≤ ls.length → sumL ls k ≤ sumL ls m
  | 0, h, _ => by obtain rfl : k = 0 := by omega
                  exact Nat.le_refl _
  | m + 1, h, hm => by
    by_cases e : k = m + 1
    · rw [e]; exact Nat.le_refl _
    · rw [sumL_step (by omega)]
      have := sumL_mono (ls := ls) (m := m) (by omega : k ≤ m) (by omega)
      omega
theorem sumL_each {ls : List (List Ins)} {k : Nat} (h : k < ls.length) : (ls.getD k []).length ≤ sumL ls ls.length := by
  have h1 := sumL_step h
  have h2 := sumL_mono (ls := ls) (k := k + 1) (m := ls.length) (by omega) (Nat.le_refl _)
  omega
def SzPost2 (ls : List (List Ins)) (left : Int) (w : World) (e : Ending) (w' : World) : Prop := ∃ v : Int, e = .returned (.int .i64 v) ∧ Below w.heap.size w w' ∧ (v < 0 ∨ 0 ≤ v ∧ v ≤ left ∧ ls.length + sumL ls ls.length ≤ 1048576)
theorem szRoutineS_sum (ls : List (List Ins)) (a : Option Addr) (c : Nat) (left : Int) (hl0 : 0 ≤ left ∧ left ≤ 1048576) (hm : ls.length ≤ maxLen) (hl : ∀ j, j < ls.length → (ls.getD j []).length ≤ maxLen) (w : World) (hz : Routs w a ls) :
    Calls Tryz.prog 30 #[.slice a ls.length c, .int .i64 left] w (SzPost2 ls left w) := by
  have HM := Lib.hid hl
  have HZ := Lib.hid hz
  have HA := Lib.hid (fun w (h : Routs w a ls) j (hj : j < ls.length) => h.at hj)
  have HNO : Hid (∀ w', Below w.heap.size w w' → SzPost2 ls left w (.returned (.int .i64 (-1))) w') := Lib.hid (fun w' hb => ⟨-1, rfl, hb, .inl (by decide)⟩)
  have HOK : Hid (∀ (v : Int) w', 0 ≤ v → v ≤ left → ls.length + sumL ls ls.length ≤ 1048576 → Below w.heap.size w w' → SzPost2 ls left w (.returned (.int .i64 v)) w') := Lib.hid (fun v w' h1 h2 h3 hb => ⟨v, rfl, hb, .inr ⟨h1, h2, h3⟩⟩)
  have HS := Lib.hid (fun k (h : k < ls.length) => sumL_step h)
  have HS0 := Lib.hid (sumL_zero ls)
  unfold maxLen at hm
  clear hl hz
  generalize SzPost2 ls left w = POST at *
  generalize sumL ls = S at *
  generalize hL : ls.length = n at *
  have HL := Lib.hid hL
  clear hL
  obtain ⟨hle0, hle1⟩ := hl0
  by_cases h1 : left < n
  · have h11 : left - (n : Int) < 0 := by omega
    go_enter Tryz.func30, Tryz.ntmps30
    go_wp2
    exact HNO.out _ (Below.refl _ _)
  have h0 : (0 : Int) ≤ left - n := by omega
  have h01 : ¬ (left - (n : Int) < 0) := by omega
  go_enter Tryz.func30, Tryz.ntmps30
  go_wp2
  go_loopw [1, 5] (fun q i wr => ∃ (j : Nat) (l : Int), j ≤ n ∧ i = .int .i64 j ∧ q = .int .i64 l ∧ 0 ≤ l ∧ l ≤ left ∧ Hid (l = left - n - S j) ∧ Hid (Below w.heap.size w wr)) (fun _ i _ => n - (intOf i).toNat)
  case atStart => exact ⟨0, left - n, Nat.zero_le _, rfl, rfl, h0, by omega, Lib.hid (by rw [HS0.out]; omega), Lib.hid (Below.refl _ _)⟩
  case round =>
    obtain ⟨j, l, hj, rfl, rfl, hl0, hl1, hr, hb⟩ := hrel
    by_cases hlt : j < n
    · obtain ⟨b, o, x, c2, rfl, hbl, hcell, _⟩ := HA.out w HZ.out j hlt
      have d0 := (hb.out.cell (p := ⟨b, o + j, none⟩) hbl).trans hcell
      have HMj := Lib.hid (HM.out j hlt)
      have HX : Hid (S (j + 1) = S j + (ls.getD j []).length) := Lib.hid (HS.out j hlt)
      clear hcell
      generalize (ls.getD j []).length = m at *
      by_cases h2 : (m : Int) ≤ l
      · have HX2 : Hid (l - m = left - n - (S (j + 1) : Nat)) := Lib.hid (by rw [HX.out, hr.out]; omega)
        have hp : ¬ (l - (m : Int) < 0) := by omega
        go_wp2_with fail
        refine Calls.mono (szRoutine_ok x m c2 l h2 (by omega) _) ?_
        rintro e w2 ⟨rfl, hb2⟩
        have Hb2 := Lib.hid (hb.out.trans (hb2.mono hb.out.size))
        clear hb2 d0
        go_wp2
        go_roundw
        case rel => exact ⟨j + 1, l - m, by omega, by go_num, rfl, by omega, by omega, HX2, Hb2⟩
        case measure => simp [intOf]; omega
      · have h3 : l < (m : Int) := by omega
        go_wp2_with fail
        refine Calls.mono (szRoutine_no x m c2 l HMj.out h3 hl0 _) ?_
        rintro e w2 ⟨rfl, hb2⟩
        have Hb2 := Lib.hid (hb.out.trans (hb2.mono hb.out.size))
        clear hb2 d0
        go_wp2
        exact HNO.out _ Hb2.out
    · obtain rfl : j = n := by omega
      go_wp2
      exact HOK.out _ _ hl0 hl1 (by have := hr.out; omega) hb.out
end Go.Proofs.YtppgknjpbfopjaaGreatDoor
namespace Go.Proofs.YtppgknjpbfopjaaGreatDoor
open Go.ChangeShapes Go.WideShapes Go.ChangeAt Go.RowKit
set_option linter.unusedVariables false
def RtPostO (zs : List Ins) (w : World) (e : Ending) (w' : World) : Prop := ∃ g, e = .returned (.agg #[.slice (some ⟨g, 0, none⟩) zs.length zs.length]) ∧ w'.ownsRow w.heap.size 170 2 (.slice (some ⟨g, 0, none⟩) zs.length zs.length) zs.length (flat insC zs) ∧ Below w.heap.size w w'
theorem toInstrS_exO (zs : List Ins) (a : Option Addr) (c : Nat) (hn : zs.length ≤ 1048576) (w : World) (hz : Lies w a (flat insC zs)) :
    Calls Tryz.prog 142 #[.slice a zs.length c] w fun e w' => ∃ g, e = .returned (.slice (some ⟨g, 0, none⟩) zs.length zs.length) ∧ w'.ownsRow w.heap.size 170 2 (.slice (some ⟨g, 0, none⟩) zs.length zs.length) zs.length (flat insC zs) ∧ Below w.heap.size w w' :=
  (toInstrS_any zs a c hn w hz).mono fun e w' ⟨h1, h2, h3⟩ => ⟨_, h1, h2, h3⟩
theorem toRoutineO_any (zs : List Ins) (a : Option Addr) (c : Nat) (hn : zs.length ≤ 1048576) (w : World) (hz : Lies w a (flat insC zs)) :
    Calls Tryz.prog 84 #[.agg #[.slice a zs.length c]] w (RtPostO zs w) := by
  have HA := Lib.hid (fun w hz => toInstrS_exO zs a c hn w hz)
  have HZ := Lib.hid hz
  clear hz
  have HB : Hid (∀ O O' O'' : Obj, Below w.heap.size w (((w.alloc O).alloc O').alloc O'')) := Lib.hid (fun O O' O'' => (((Below.refl w.heap.size w).alloc (Nat.le_refl _) O).alloc (by simp) O').alloc (by simp; omega) O'')
  have HK : Hid (∀ O O' O'' : Obj, (((w.alloc O).alloc O').alloc O'').heap[w.heap.size + 1]? = some O' ∧ (((w.alloc O).alloc O').alloc O'').heap[w.heap.size + 2]? = some O'' ∧ (((w.alloc O).alloc O').alloc O'').heap.size = w.heap.size + 3) := Lib.hid (fun O O' O'' =>
    ⟨alloc_at (heap_alloc2_new w O O') O'', by have := box_new ((w.alloc O).alloc O') O''; simpa using this, by simp⟩)
  have HR : Hid (∀ g w', w'.ownsRow w.heap.size 170 2 (.slice (some ⟨g, 0, none⟩) zs.length zs.length) zs.length (flat insC zs) → Below w.heap.size w w' → RtPostO zs w (.returned (.agg #[.slice (some ⟨g, 0, none⟩) zs.length zs.length])) w') := Lib.hid (fun g w' h2 h3 => ⟨g, rfl, h2, h3⟩)
  generalize RtPostO zs w = POST at *
  generalize zs.length = n at *
  go_enter Tryz.func84, Tryz.ntmps84
  go_wp2_with fail
  refine Calls.mono (HA.out _ (HZ.out.below (HB.out _ _ _) (Nat.le_refl _))) ?_
  rintro e w1 ⟨g, rfl, ho, hb⟩
  obtain ⟨k1, k2, k3⟩ := HK.out (.cells #[.slice a n c] 113) (.cells #[.slice none 0 0] 108) (.cells #[.slice none 0 0] 108)
  have q1 := below_at k1 hb
  have q2 := below_at k2 hb
  have Hb := Lib.hid ((HB.out _ _ _).trans (hb.mono (HB.out _ _ _).size))
  rw [k3] at ho
  have HO := Lib.hid ho
  have c1 := cell_of_row w1 (w.heap.size + 1) 0 _ _ _ q1
  have f1 := frozen_of_row w1 (w.heap.size + 1) 0 _ _ q1
  have c2 := cell_of_row w1 (w.heap.size + 2) 0 _ _ _ q2
  have f2 := frozen_of_row w1 (w.heap.size + 2) 0 _ _ q2
  clear hb q1 q2 k1 k2 k3 ho
  go_wp2
  refine bodyPost_ret (v := .agg #[.slice (some ⟨g, 0, none⟩) n n]) (by simp [results, Tryz.results84, go_sem, c1]) rfl (HR.out g _ ?_ ?_)
  · exact own_base (own_far (own_far HO.out (by omega) _) (by omega) _) (by omega)
  · exact (Hb.out.setCell (p := ⟨w.heap.size + 2, 0, none⟩) (by simp only; omega) _).setCell (p := ⟨w.heap.size + 1, 0, none⟩) (by simp only; omega) _
/-- The codes of the first routines, each in a block of the call's own. -/
structure RowsO (w : World) (B : Nat) (rs : List RT) (ls : List (List Ins)) : Prop where
  each : ∀ j, j < rs.length → ∃ g, rs.getD j (none, 0, 0) = (some ⟨g, 0, none⟩, (ls.getD j []).length, (ls.getD j []).length) ∧ w.ownsRow (B + 1) 170 2 (.slice (some ⟨g, 0, none⟩) (ls.getD j []).length (ls.getD j []).length) (ls.getD j []).length (flat insC (ls.getD j []))
  apart : ∀ i j, i < j → j < rs.length → (rs.getD i (none, 0, 0)).1 ≠ (rs.getD j (none, 0, 0)).1
theorem RowsO.nil (w : World) (B : Nat) (ls : List (List Ins)) : RowsO w B [] ls := ⟨fun j h => by simp at h, fun i j _ h => by simp at h⟩
theorem RowsO.bel {w w' : World} {B : Nat} {rs : List RT} {ls : List (List Ins)} (h : RowsO w B rs ls) (hb : Below w.heap.size w w') : RowsO w' B rs ls :=
  ⟨fun j hj => by obtain ⟨g, h1, h2⟩ := h.each j hj; exact ⟨g, h1, own_bl h2 hb⟩, h.apart⟩
theorem RowsO.far {w : World} {B i : Nat} {rs : List RT} {ls : List (List Ins)} (h : RowsO w B rs ls) (u : Value) : RowsO (w.setCell ⟨B, i, none⟩ u) B rs ls :=
  ⟨fun j hj => by obtain ⟨g, h1, h2⟩ := h.each j hj; exact ⟨g, h1, own_far h2 (by omega) u⟩, h.apart⟩
theorem RowsO.lt {w : World} {B : Nat} {rs : List RT} {ls : List (List Ins)} (h : RowsO w B rs ls) {j : Nat} (hj : j < rs.length) {g : Nat} (hg : (rs.getD j (none, 0, 0)).1 = some ⟨g, 0, none⟩) : B < g ∧ g < w.heap.size := by
  obtain ⟨g', h1, h2⟩ := h.each j hj
  rw [h1] at hg
  simp only [Option.some.injEq, Addr.mk.injEq, and_true] at hg
  subst hg
  have := h2.lt g' rfl
  omega
theorem gd_snoc_lt {rs : List RT} {x : RT} {j : Nat} (h : j < rs.length) : (rs ++ [x]).getD j (none, 0, 0) = rs.getD j (none, 0, 0) := by simp [List.getD, List.getElem?_append_left h]
theorem gd_snoc_eq {rs : List RT} {x : RT} : (rs ++ [x]).getD rs.length (none, 0, 0) = x := by simp [List.getD]
theorem RowsO.snoc {w : World} {B M : Nat} {rs : List RT} {ls : List (List Ins)} (h : RowsO w B rs ls) {g : Nat} (hM : ∀ j g', j < rs.length → (rs.getD j (none, 0, 0)).1 = some ⟨g', 0, none⟩ → g' < M) (hg : M ≤ g) (hB : B < M)
    (hz : w.ownsRow (B + 1) 170 2 (.slice (some ⟨g, 0, none⟩) (ls.getD rs.length []).length (ls.getD rs.length []).length) (ls.getD rs.length []).length (flat insC (ls.getD rs.length []))) :
    RowsO w B (rs ++ [(some ⟨g, 0, none⟩, (ls.getD rs.length []).length, (ls.getD rs.length []).length)]) ls := by
  refine ⟨fun j hj => ?_, fun i j hij hj => ?_⟩
  · by_cases e : j < rs.length
    · rw [gd_snoc_lt e]; exact h.each j e
    · obtain rfl : j = rs.length := by simp at hj; omega
      rw [gd_snoc_eq]
      exact ⟨g, rfl, hz⟩
  · by_cases e : j < rs.length
    · rw [gd_snoc_lt e, gd_snoc_lt (by omega)]; exact h.apart i j hij e
    · obtain rfl : j = rs.length := by simp at hj; omega
      rw [gd_snoc_eq, gd_snoc_lt hij]
      obtain ⟨g', h1, _⟩ := h.each i hij
      have := hM i g' hij (by rw [h1])
      rw [h1]
      intro e'
      simp only [Option.some.injEq, Addr.mk.injEq, and_true] at e'
      omega
/-- A list of routines in the call's own memory: the row in block B, the codes in blocks behind it, all ahead of hi. -/
structure ROwn (B hi : Nat) (ls : List (List Ins)) (w : World) : Prop where
  rows : ∃ rs : List RT, rs.length = ls.length ∧ w.ownsRow B 108 1 (.slice (some ⟨B, 0, none⟩) ls.length ls.length) ls.length (flat rtC rs) ∧ RowsO w B rs ls ∧ B < hi ∧ ∀ j g, j < rs.length → (rs.getD j (none, 0, 0)).1 = some ⟨g, 0, none⟩ → g < hi
theorem ROwn.bel {B hi : Nat} {ls : List (List Ins)} {w w' : World} (h : ROwn B hi ls w) (hb : Below w.heap.size w w') : ROwn B hi ls w' := by
  obtain ⟨rs, h1, h2, h3, h4, h5⟩ := h.rows
  exact ⟨rs, h1, own_bl h2 hb, h3.bel hb, h4, h5⟩
theorem ROwn.routs {B hi : Nat} {ls : List (List Ins)} {w : World} (h : ROwn B hi ls w) : Routs w (some ⟨B, 0, none⟩) ls := by
  obtain ⟨rs, h1, h2, h3, h4, h5⟩ := h.rows
  refine ⟨rs, h1, lies_own h2, fun j hj => ?_⟩
  obtain ⟨g, e, ho⟩ := h3.each j (by omega)
  rw [e]
  exact ⟨rfl, lies_own ho⟩
def ToRPost (ls : List (List Ins)) (w : World) (e : Ending) (w' : World) : Prop := e = .returned (.slice (some ⟨w.heap.size, 0, none⟩) ls.length ls.length) ∧ ROwn w.heap.size w'.heap.size ls w' ∧ Below w.heap.size w w'
theorem toRoutineSO_any (ls : List (List Ins)) (a : Option Addr) (c : Nat) (hn : ls.length ≤ 1048576) (hl : ∀ j, j < ls.length → (ls.getD j []).length ≤ 1048576) (w : World) (hz : Routs w a ls) :
    Calls Tryz.prog 36 #[.slice a ls.length c] w (ToRPost ls w) := by
  obtain ⟨i0, hi, hz0, hz1, hz2⟩ := info_parts (show (Tryz.prog.info? 108).map (fun i => (i.zero, i.size, i.bytes)) = some (some (.agg #[.slice none 0 0]), 1, 24) by kernel_rfl)
  have HI := Lib.hid (And.intro hi (And.intro hz0 (And.intro hz1 hz2)))
  clear hi hz0 hz1 hz2
  have HZ := Lib.hid hz
  have HM := Lib.hid hl
  have HA := Lib.hid (fun w (h : Routs w a ls) j (hj : j < ls.length) => h.at hj)
  have HP : Hid (∀ w' (rs : List RT), rs.length = ls.length → FillR w' w.heap.size ls.length rs → RowsO w' w.heap.size rs ls → Below w.heap.size w w' → ToRPost ls w (.returned (.slice (some ⟨w.heap.size, 0, none⟩) ls.length ls.length)) w') := Lib.hid (fun w' rs h1 h2 h3 h4 => by
    obtain ⟨tl, g1, g2, g3⟩ := h2
    have ht : tl = [] := List.eq_nil_of_length_eq_zero (by omega)
    subst ht
    rw [List.append_nil] at g3
    exact ⟨rfl, ⟨rs, h1, g3, h3, (g3.lt w.heap.size rfl).2, fun j g hj e => (h3.lt hj e).2⟩, h4⟩)
  clear hz hl
  generalize ToRPost ls w = POST at *
  generalize hL : ls.length = n at *
  have HL := Lib.hid hL
  clear hL
  go_enter Tryz.func36, Tryz.ntmps36
  go_wp2_with (at_make; go_must (refine wpList_make_full _ rfl _ _ _ rfl w.heap.size 108 i0 _ 1 Tryz.underlying32 HI.out.1 HI.out.2.1 HI.out.2.2.1 .i64 .i64 _ _ n rfl rfl rfl rfl (by rw [HI.out.2.2.2]; omega) (by unfold maxLen; omega) (Nat.le_refl _) ?_); intro w1 hown1 hgrow1)
  have Ho1 : Hid (FillR w1 w.heap.size n []) := Lib.hid ⟨_, by have := hown1.1; simpa using this, Nat.zero_le _, hown1⟩
  have Hb1 := Lib.hid ((Below.refl w.heap.size w).grown hgrow1 (Nat.le_refl _) (by intro k hk; cases hk))
  clear hown1 hgrow1
  go_loopw [4] (fun i wr => ∃ (k : Nat) (rs : List RT), k ≤ n ∧ i = .int .i64 k ∧ Hid (rs.length = k) ∧ Hid (FillR wr w.heap.size n rs) ∧ Hid (RowsO wr w.heap.size rs ls) ∧ Hid (Below w.heap.size w wr)) (fun i _ => n - (intOf i).toNat)
  case atStart => exact ⟨0, [], Nat.zero_le _, rfl, Lib.hid rfl, Ho1, Lib.hid (RowsO.nil _ _ _), Hb1⟩
  case round =>
    obtain ⟨k, rs, hk, rfl, hrl, hf, hc, hb⟩ := hrel
    by_cases hlt : k < n
    · obtain ⟨b, o, x, c2, rfl, hbl, hcell, hlies⟩ := HA.out w HZ.out k hlt
      have hb' := hb.out
      have d0 := (hb'.cell (p := ⟨b, o + k, none⟩) hbl).trans hcell
      have HT := Lib.hid (toRoutineO_any (ls.getD k []) x c2 (HM.out k hlt) wr (hlies.below hb' (Nat.le_refl _)))
      have hBw : w.heap.size < wr.heap.size := by
        obtain ⟨tl, _, _, h3⟩ := hf.out
        exact (h3.lt w.heap.size rfl).2
      clear hcell hlies hb'
      go_wp2_with fail
      refine Calls.mono HT.out ?_
      rintro e w2 ⟨g, rfl, ho2, hb2⟩
      have hf2 := hf.out.bel hb2
      have hgM : wr.heap.size ≤ g := (ho2.lt g rfl).1
      obtain ⟨⟨v0, e0⟩, f0⟩ := hf2.there (by rw [hrl.out]; exact hlt)
      have hf3 := hf2.store (by rw [hrl.out]; exact hlt) (some ⟨g, 0, none⟩, (ls.getD rs.length []).length, (ls.getD rs.length []).length)
      have hc3 := ((hc.out.bel hb2).snoc (M := wr.heap.size) (fun j g' hj e => (hc.out.lt hj e).2) hgM hBw (by rw [hrl.out]; exact own_base ho2 (by omega))).far (i := rs.length) (.slice (some ⟨g, 0, none⟩) (ls.getD rs.length []).length (ls.getD rs.length []).length)
      rw [hrl.out] at e0 f0 hf3 hc3
      have HF3 := Lib.hid hf3
      have HC3 := Lib.hid hc3
      have HB3 := Lib.hid ((hb.out.trans (hb2.mono hb.out.size)).setCell (p := ⟨w.heap.size, k, none⟩) (Nat.le_refl _) (.slice (some ⟨g, 0, none⟩) (ls.getD k []).length (ls.getD k []).length))
      have HRL : Hid ((rs ++ [((some ⟨g, 0, none⟩, (ls.getD k []).length, (ls.getD k []).length) : RT)]).length = k + 1) := Lib.hid (by simp [hrl.out])
      clear hf2 hf3 hc3 hb2 ho2 d0
      generalize (ls.getD k []).length = q at *
      go_wp2
      go_roundw
      case rel => exact ⟨k + 1, _, by omega, by go_num, HRL, HF3, HC3, HB3⟩
      case measure => simp [intOf]; omega
    · obtain rfl : k = n := by omega
      go_wp2
      exact HP.out _ rs hrl.out hf.out hc.out hb.out
/-- The marks of a list of routines: what they change lies between the row's block and hi. -/
theorem markRoutineS_any (B hi : Nat) (ls : List (List Ins)) (m : Int) (hm : 0 ≤ m ∧ m ≤ 1000000) (hs : sumL ls ls.length ≤ 1048576) (hn : ls.length ≤ 1048576) (w : World) (ho : ROwn B hi ls w) :
    Calls Tryz.prog 46 #[.slice (some ⟨B, 0, none⟩) ls.length ls.length, .int .i64 m] w fun e w' => e = .returned (.int .i64 (m + 2 * (sumL ls ls.length : Nat))) ∧ Mid B hi w w' := by
  obtain ⟨rs, h1, h2, h3, h4, h5⟩ := ho.rows
  have HS := Lib.hid (fun k (h : k < ls.length) => sumL_step h)
  have HSM := Lib.hid (fun k (h : k ≤ ls.length) => Nat.le_trans (sumL_mono (ls := ls) h (Nat.le_refl _)) hs)
  have HS0 := Lib.hid (sumL_zero ls)
  have HAP := Lib.hid h3.apart
  have HLT := Lib.hid (fun j g (hj : j < rs.length) e => And.intro (h3.lt hj e).1 (h5 j g hj e))
  have HEA : Hid (∀ j, j < rs.length → ∃ g, rs.getD j (none, 0, 0) = (some ⟨g, 0, none⟩, (ls.getD j []).length, (ls.getD j []).length)) := Lib.hid (fun j hj => by obtain ⟨g, e, _⟩ := h3.each j hj; exact ⟨g, e⟩)
  have HOW : Hid (∀ j, 0 ≤ j → j < rs.length → ∃ g, rs.getD j (none, 0, 0) = (some ⟨g, 0, none⟩, (ls.getD j []).length, (ls.getD j []).length) ∧ w.ownsRow (B + 1) 170 2 (.slice (some ⟨g, 0, none⟩) (ls.getD j []).length (ls.getD j []).length) (ls.getD j []).length (flat insC (ls.getD j []))) := Lib.hid (fun j _ hj => h3.each j hj)
  have HH := Lib.hid h2
  have HE : Hid (∀ j, j < ls.length → (ls.getD j []).length ≤ 1048576) := Lib.hid (fun j hj => Nat.le_trans (sumL_each hj) hs)
  clear ho h2 h3 h5 hs
  generalize sumL ls = S at *
  generalize hL : ls.length = n at *
  have HL := Lib.hid hL
  clear hL
  have HN := Lib.hid h1
  clear h1
  go_enter Tryz.func46, Tryz.ntmps46
  go_wp2
  go_loopw [1, 5] (fun q i wr => ∃ j : Nat, j ≤ n ∧ i = .int .i64 j ∧ q = .int .i64 (m + 2 * (S j : Nat)) ∧ Hid (wr.ownsRow B 108 1 (.slice (some ⟨B, 0, none⟩) n n) n (flat rtC rs)) ∧ Hid (∀ p, j ≤ p → p < rs.length → ∃ g, rs.getD p (none, 0, 0) = (some ⟨g, 0, none⟩, (ls.getD p []).length, (ls.getD p []).length) ∧ wr.ownsRow (B + 1) 170 2 (.slice (some ⟨g, 0, none⟩) (ls.getD p []).length (ls.getD p []).length) (ls.getD p []).length (flat insC (ls.getD p []))) ∧ Hid (Mid B hi w wr)) (fun _ i _ => n - (intOf i).toNat)
  case atStart => exact ⟨0, Nat.zero_le _, rfl, by rw [HS0.out]; go_num, HH, HOW, Lib.hid (Mid.refl _ _ _)⟩
  case round =>
    obtain ⟨j, hj, rfl, rfl, hh, hw, hmd⟩ := hrel
    by_cases hlt : j < n
    · obtain ⟨g, hg, hown⟩ := hw.out j (Nat.le_refl _) (by rw [HN.out]; exact hlt)
      have hx : rs[j]? = some (rs.getD j (none, 0, 0)) := by simp [List.getD, HN.out, hlt]
      have hx0 := flat_at rtC_len hx (j := 0) (by omega)
      rw [Nat.mul_one, Nat.add_zero] at hx0
      have d0 := hh.out.cellAt j (by omega)
      rw [hx0, hg] at d0
      simp only [rtC, List.getElem?_cons_zero] at d0
      obtain ⟨hgB, hghi⟩ := HLT.out j g (by rw [HN.out]; exact hlt) (by rw [hg])
      have HWN : Hid (∀ wr2, wr.grownBy wr2 (some g) → ∀ p, j + 1 ≤ p → p < rs.length → ∃ g, rs.getD p (none, 0, 0) = (some ⟨g, 0, none⟩, (ls.getD p []).length, (ls.getD p []).length) ∧ wr2.ownsRow (B + 1) 170 2 (.slice (some ⟨g, 0, none⟩) (ls.getD p []).length (ls.getD p []).length) (ls.getD p []).length (flat insC (ls.getD p []))) := Lib.hid (fun wr2 hgr p hp hp2 => by
        obtain ⟨g', e1, e2⟩ := hw.out p (by omega) hp2
        refine ⟨g', e1, e2.kept hgr (Or.inr ?_)⟩
        have := HAP.out j p (by omega) hp2
        rw [hg, e1] at this
        simpa [Value.ownBlock] using fun h => this (by rw [h]))
      have HHN : Hid (∀ wr2, wr.grownBy wr2 (some g) → wr2.ownsRow B 108 1 (.slice (some ⟨B, 0, none⟩) n n) n (flat rtC rs)) := Lib.hid (fun wr2 hgr => hh.out.kept hgr (Or.inr (by simp [Value.ownBlock]; omega)))
      have HMN : Hid (∀ wr2, wr.grownBy wr2 (some g) → Mid B hi w wr2) := Lib.hid (fun wr2 hgr => hmd.out.trans (Mid.of_grown hgr (fun g' e => by cases e; omega)))
      have HMI := Lib.hid (markInstrS_any (B + 1) g (ls.getD j []).length (ls.getD j []).length (flat insC (ls.getD j [])) (m + 2 * (S j : Nat)) (by have := HSM.out j (by omega); omega) (HE.out j hlt) wr hown)
      have HSj : Hid (S (j + 1) = S j + (ls.getD j []).length) := Lib.hid (HS.out j hlt)
      clear hown hx hx0 hg
      generalize (ls.getD j []).length = q at *
      go_wp2_with fail
      refine Calls.mono HMI.out ?_
      rintro e w2 ⟨rfl, _, hgr⟩
      have H1 := Lib.hid (HHN.out w2 hgr)
      have H2 := Lib.hid (HWN.out w2 hgr)
      have H3 := Lib.hid (HMN.out w2 hgr)
      clear hgr d0
      go_wp2
      go_roundw
      case rel => exact ⟨j + 1, by omega, by go_num, by rw [HSj.out]; congr 1; omega, H1, H2, H3⟩
      case measure => simp [intOf]; omega
    · obtain rfl : j = n := by omega
      go_wp2
      go_ret
      exact ⟨rfl, hmd.out⟩
end Go.Proofs.YtppgknjpbfopjaaGreatDoor
