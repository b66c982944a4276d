/- Lists of routines: the copies, comparisons, sizes of the laws. -/
import Derived.Test.YtbbhoaljldgjeaaDoorAll3
namespace Go.Proofs.YtbbhoaljldgjeaaDoor
open Go.ChangeShapes Go.WideShapes Go.ChangeAt Go.RowKit
set_option linter.unusedVariables false
/-- What came in: a routine, its instructions behind it. -/
def RtOK (W : World) (x : RT × List Ins) : Prop := x.1.2.1 = x.2.length ∧ Lies W x.1.1 (flat insC x.2) ∧ x.2.length ≤ maxLen
theorem cRt : Tryd.prog.cellsOf 89 = 1 := by kernel_rfl
theorem cSl : Tryd.prog.cellsOf 40 = 1 := by kernel_rfl
theorem came_rt {W : World} {cs : List Value} (h : Came Tryd.prog W 89 cs) : ∃ x : RT × List Ins, RtOK W x ∧ cs = rtC x.1 := by
  obtain ⟨hl, hf⟩ := came_struct Tryd.underlying89 h
  have hl1 : cs.length = 1 := hl.trans cRt
  clear hl
  obtain ⟨v, rfl⟩ : ∃ v, cs = [v] := by
    cases cs with
    | nil => cases hl1
    | cons v t =>
      cases t with
      | nil => exact ⟨v, rfl⟩
      | cons u t => cases hl1
  have h0 := hf 0 _ rfl
  have hw : (([v] : List Value).drop 0).take (Tryd.prog.cellsOf 40) = [v] := (congrArg (fun k => (([v] : List Value).drop 0).take k) cSl).trans rfl
  have h0' : Came Tryd.prog W 40 [v] := hw ▸ h0
  rcases came_slice Tryd.underlying40 h0' with e | ⟨x, len, cap, e, _⟩
  · simp only [List.cons.injEq, and_true] at e
    subst e
    obtain ⟨hm, _, zs, hzl, hz⟩ := came_insM h0'
    exact ⟨((none, 0, 0), zs), ⟨hzl.symm, hz, by show zs.length ≤ maxLen; omega⟩, rfl⟩
  · simp only [List.cons.injEq, and_true] at e
    subst e
    obtain ⟨hm, _, zs, hzl, hz⟩ := came_insM h0'
    exact ⟨((some x, len, cap), zs), ⟨hzl.symm, hz, by show zs.length ≤ maxLen; omega⟩, rfl⟩
theorem came_rts {W : World} {a : Option Addr} {n c : Nat} (h : Came Tryd.prog W 46 [.slice a n c]) : n ≤ maxLen ∧ ∃ ls : List (List Ins), ls.length = n ∧ Routs W a ls ∧ ∀ j, j < ls.length → (ls.getD j []).length ≤ maxLen := by
  obtain ⟨h1, _, zs, h3, h4⟩ := lies_came (α := {x : RT × List Ins // RtOK W x}) (fun x => rtC x.1.1) (fun x => rtC_len x.1.1) (by decide) Tryd.underlying46 cRt (fun es g => by
    obtain ⟨x, hx, e⟩ := came_rt g
    exact ⟨⟨x, hx⟩, e⟩) h
  have hj : ∀ j, (hj : j < zs.length) → (zs.map fun x => x.1.2).getD j [] = zs[j].1.2 ∧ (zs.map fun x => x.1.1).getD j (none, 0, 0) = zs[j].1.1 := fun j hj => by simp [List.getD, hj]
  refine ⟨h1, zs.map fun x => x.1.2, by simpa using h3, ⟨zs.map fun x => x.1.1, by simp, ?_, fun j h' => ?_⟩, fun j h' => ?_⟩
  · have : flat rtC (zs.map fun x => x.1.1) = flat (fun x : {x : RT × List Ins // RtOK W x} => rtC x.1.1) zs := by simp [flat, List.flatMap_map]
    rw [this]
    exact h4
  · simp only [List.length_map] at h'
    rw [(hj j h').1, (hj j h').2]
    exact ⟨zs[j].2.1, zs[j].2.2.1⟩
  · simp only [List.length_map] at h'
    rw [(hj j h').1]
    exact zs[j].2.2.2
theorem toInstrS_ex (zs : List Ins) (a : Option Addr) (c : Nat) (hn : zs.length ≤ 1048576) (w : World) (hz : Lies w a (flat insC zs)) :
    Calls Tryd.prog 23 #[.slice a zs.length c] w fun e w' => ∃ g, w.heap.size ≤ g ∧ e = .returned (.slice (some ⟨g, 0, none⟩) zs.length zs.length) ∧ Lies w' (some ⟨g, 0, none⟩) (flat insC zs) ∧ Below w.heap.size w w' :=
  (toInstrS_any zs a c hn w hz).mono fun e w' ⟨h1, h2, h3⟩ => ⟨_, Nat.le_refl _, h1, lies_own h2, h3⟩
def RtPost (zs : List Ins) (w : World) (e : Ending) (w' : World) : Prop := ∃ g, w.heap.size ≤ g ∧ e = .returned (.agg #[.slice (some ⟨g, 0, none⟩) zs.length zs.length]) ∧ Lies w' (some ⟨g, 0, none⟩) (flat insC zs) ∧ Below w.heap.size w w'
theorem lies_set {w : World} {a : Option Addr} {cs : List Value} (h : Lies w a cs) {p : Addr} (u : Value) (hp : ∀ b o, a = some (⟨b, o, none⟩ : Addr) → b ≠ p.block) : Lies (w.setCell p u) a cs := by
  rcases h with h | ⟨b, o, e, h⟩
  · exact .inl h
  · exact .inr ⟨b, o, e, fun j v hj => (cell_set_ne u (hp b o e)).trans (h j v hj)⟩
theorem toRoutine_any (zs : List Ins) (a : Option Addr) (c : Nat) (hn : zs.length ≤ 1048576) (w : World) (hz : Lies w a (flat insC zs)) :
    Calls Tryd.prog 60 #[.agg #[.slice a zs.length c]] w (RtPost zs w) := by
  have HA := Lib.hid (fun w hz => toInstrS_ex zs a c hn w hz)
  have HZ := Lib.hid hz
  clear hz
  have HB : Hid (∀ O O' O'' : Obj, Below w.heap.size w (((w.alloc O).alloc O').alloc O'')) := Lib.hid (fun O O' O'' => (((Below.refl w.heap.size w).alloc (Nat.le_refl _) O).alloc (by simp) O').alloc (by simp; omega) O'')
  have HK : Hid (∀ O O' O'' : Obj, (((w.alloc O).alloc O').alloc O'').heap[w.heap.size + 1]? = some O' ∧ (((w.alloc O).alloc O').alloc O'').heap[w.heap.size + 2]? = some O'' ∧ (((w.alloc O).alloc O').alloc O'').heap.size = w.heap.size + 3) := Lib.hid (fun O O' O'' =>
    ⟨alloc_at (heap_alloc2_new w O O') O'', by have := box_new ((w.alloc O).alloc O') O''; simpa using this, by simp⟩)
  have HD := Lib.hid (rfl : RtPost zs w = RtPost zs w)
  have HR : Hid (∀ g w', w.heap.size ≤ g → Lies w' (some ⟨g, 0, none⟩) (flat insC zs) → Below w.heap.size w w' → RtPost zs w (.returned (.agg #[.slice (some ⟨g, 0, none⟩) zs.length zs.length])) w') := Lib.hid (fun g w' h1 h2 h3 => ⟨g, h1, rfl, h2, h3⟩)
  clear HD
  generalize RtPost zs w = POST at *
  generalize zs.length = n at *
  go_enter Tryd.func60, Tryd.ntmps60
  go_wp2_with fail
  refine Calls.mono (HA.out _ (HZ.out.below (HB.out _ _ _) (Nat.le_refl _))) ?_
  rintro e w1 ⟨g, hg, rfl, ho, hb⟩
  obtain ⟨k1, k2, k3⟩ := HK.out (.cells #[.slice a n c] 89) (.cells #[.slice none 0 0] 93) (.cells #[.slice none 0 0] 93)
  have q1 := below_at k1 hb
  have q2 := below_at k2 hb
  have Hb := Lib.hid ((HB.out _ _ _).trans (hb.mono (HB.out _ _ _).size))
  rw [k3] at hg
  have HO := Lib.hid ho
  have c1 := cell_of_row w1 (w.heap.size + 1) 0 _ _ _ q1
  have f1 := frozen_of_row w1 (w.heap.size + 1) 0 _ _ q1
  have c2 := cell_of_row w1 (w.heap.size + 2) 0 _ _ _ q2
  have f2 := frozen_of_row w1 (w.heap.size + 2) 0 _ _ q2
  clear hb q1 q2 k1 k2 k3 ho
  go_wp2
  refine bodyPost_ret (v := .agg #[.slice (some ⟨g, 0, none⟩) n n]) (by simp [results, Tryd.results60, go_sem, c1]) rfl (HR.out g _ (by omega) ?_ ?_)
  · exact lies_set (lies_set HO.out _ (fun b o e => by simp only [Option.some.injEq, Addr.mk.injEq] at e; simp only; omega)) _ (fun b o e => by simp only [Option.some.injEq, Addr.mk.injEq] at e; simp only; omega)
  · exact (Hb.out.setCell (p := ⟨w.heap.size + 2, 0, none⟩) (by simp only; omega) _).setCell (p := ⟨w.heap.size + 1, 0, none⟩) (by simp only; omega) _
/-- The row of routines that a copy fills. -/
def FillR (w : World) (B n : Nat) (rs : List RT) : Prop := ∃ tl : List Value, tl.length = n - rs.length ∧ rs.length ≤ n ∧ w.ownsRow B 93 1 (.slice (some ⟨B, 0, none⟩) n n) n (flat rtC rs ++ tl)
theorem FillR.store {w : World} {B n : Nat} {rs : List RT} (h : FillR w B n rs) (hlt : rs.length < n) (x : RT) : FillR (w.setCell ⟨B, rs.length, none⟩ (.slice x.1 x.2.1 x.2.2)) B n (rs ++ [x]) := by
  obtain ⟨tl, h1, h2, h3⟩ := h
  obtain ⟨t, tl', rfl⟩ : ∃ t tl', tl = t :: tl' := by
    cases tl with
    | nil => simp at h1; omega
    | cons t tl' => exact ⟨t, tl', rfl⟩
  have h4 := (h3.stored rs.length (.slice x.1 x.2.1 x.2.2)).1
  refine ⟨tl', by simp at h1 ⊢; omega, by simp; omega, ?_⟩
  have e : (flat rtC rs ++ t :: tl').set rs.length (.slice x.1 x.2.1 x.2.2) = flat rtC (rs ++ [x]) ++ tl' := by
    rw [flat_snoc, List.set_append_right _ _ (by rw [flat_len rtC_len]; omega), flat_len rtC_len]
    simp [rtC]
  rw [e] at h4
  exact h4
theorem FillR.bel {w w' : World} {B n : Nat} {rs : List RT} (h : FillR w B n rs) (hb : Below w.heap.size w w') : FillR w' B n rs := by
  obtain ⟨tl, h1, h2, h3⟩ := h
  exact ⟨tl, h1, h2, own_bl h3 hb⟩
theorem FillR.there {w : World} {B n : Nat} {rs : List RT} (h : FillR w B n rs) (hlt : rs.length < n) : (∃ v, w.cell? ⟨B, rs.length, none⟩ = some v) ∧ w.frozen? ⟨B, rs.length, none⟩ = false := by
  obtain ⟨tl, h1, h2, h3⟩ := h
  have hc := h3.cellAt rs.length (by omega)
  refine ⟨?_, h3.frozenAt _⟩
  rw [hc]
  have : rs.length < (flat rtC rs ++ tl).length := by rw [List.length_append, flat_len rtC_len]; omega
  exact ⟨_, List.getElem?_eq_getElem this⟩
/-- The codes behind the first routines. -/
def CodesR (w : World) (B : Nat) (rs : List RT) (ls : List (List Ins)) : Prop :=
  ∀ j, j < rs.length → (rs.getD j (none, 0, 0)).2.1 = (ls.getD j []).length ∧ Lies w (rs.getD j (none, 0, 0)).1 (flat insC (ls.getD j [])) ∧ ∀ b o, (rs.getD j (none, 0, 0)).1 = some (⟨b, o, none⟩ : Addr) → b ≠ B
theorem CodesR.bel {w w' : World} {B : Nat} {rs : List RT} {ls : List (List Ins)} (h : CodesR w B rs ls) (hb : Below w.heap.size w w') : CodesR w' B rs ls := fun j hj => ⟨(h j hj).1, (h j hj).2.1.below hb (Nat.le_refl _), (h j hj).2.2⟩
theorem CodesR.snoc {w : World} {B : Nat} {rs : List RT} {ls : List (List Ins)} (h : CodesR w B rs ls) {g : Nat} (hg : g ≠ B) {c : Nat} (hz : Lies w (some ⟨g, 0, none⟩) (flat insC (ls.getD rs.length []))) (u : Value) :
    CodesR (w.setCell ⟨B, rs.length, none⟩ u) B (rs ++ [(some ⟨g, 0, none⟩, (ls.getD rs.length []).length, c)]) ls := by
  intro j hj
  by_cases e : j < rs.length
  · have hx : (rs ++ [((some ⟨g, 0, none⟩, (ls.getD rs.length []).length, c) : RT)]).getD j (none, 0, 0) = rs.getD j (none, 0, 0) := by simp [List.getD, List.getElem?_append_left e]
    rw [hx]
    exact ⟨(h j e).1, lies_set (h j e).2.1 u (h j e).2.2, (h j e).2.2⟩
  · have hj' : j = rs.length := by simp at hj; omega
    subst hj'
    have hx : (rs ++ [((some ⟨g, 0, none⟩, (ls.getD rs.length []).length, c) : RT)]).getD rs.length (none, 0, 0) = (some ⟨g, 0, none⟩, (ls.getD rs.length []).length, c) := by simp [List.getD]
    rw [hx]
    have hb : ∀ b o, (some (⟨g, 0, none⟩ : Addr)) = some (⟨b, o, none⟩ : Addr) → b ≠ B := fun b o e => by simp only [Option.some.injEq, Addr.mk.injEq] at e; omega
    exact ⟨rfl, lies_set hz u hb, hb⟩
theorem routs_of {w : World} {B n : Nat} {rs : List RT} {ls : List (List Ins)} (h : FillR w B n rs) (hc : CodesR w B rs ls) (hl : ls.length = n) (hr : rs.length = n) : Routs w (some ⟨B, 0, none⟩) ls := by
  obtain ⟨tl, h1, h2, h3⟩ := h
  have ht : tl = [] := List.eq_nil_of_length_eq_zero (by omega)
  subst ht
  rw [List.append_nil] at h3
  exact ⟨rs, by omega, lies_own h3, fun j hj => ⟨(hc j (by omega)).1, (hc j (by omega)).2.1⟩⟩
end Go.Proofs.YtbbhoaljldgjeaaDoor
