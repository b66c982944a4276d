/- The verifier of spec: what an instruction takes and gives; what is taken. -/
import Derived.Test.YtpdnkcfphjbbfaaGreatDoorVCode
namespace Go.Proofs.YtpdnkcfphjbbfaaGreatDoor
open Go.ChangeShapes Go.WideShapes Go.ChangeAt Go.RowKit
set_option linter.unusedVariables false
def bs (l : List UInt8) : ByteArray := ⟨l.toArray⟩
theorem bs_list (l : List UInt8) : (bs l).data.toList = l := by simp [bs]
theorem bs_size (l : List UInt8) : (bs l).size = l.length := by simp [bs, ByteArray.size]
theorem bs_of (s : ByteArray) : s = bs s.data.toList := by
  apply bytes_inj
  rw [bs_list]
theorem take_short (S T : ByteArray) (f : Nat) (h1 : S.size ≤ 100) (h2 : T.size ≤ 100) (h3 : f ≤ 100) (h : S.size < f + T.size) (w : World) :
    Calls Tryz.prog 172 #[.string S, .string T, .int .i64 f] w fun e w' => e = .returned (.tuple #[.string ⟨#[]⟩, .int .i64 13]) ∧ w = w' := by
  have hd : decide ((S.size : Int) - f < T.size) = true := decide_eq_true (by omega)
  have hd2 : ((S.size : Int) - f < T.size) := by omega
  go_enter Tryz.func172, Tryz.ntmps172
  go_wp2
  go_ret2
  exact ⟨rfl, rfl⟩
theorem ext_drop (l : List UInt8) (r : Nat) : (bs l).extract r l.length = bs (l.drop r) := by
  apply bytes_inj
  simp [bs, ByteArray.data_extract]
  exact List.take_of_length_le (by simp)
theorem ext_take (l : List UInt8) (r : Nat) : (bs l).extract 0 r = bs (l.take r) := by
  apply bytes_inj
  simp [bs, ByteArray.data_extract]
theorem ret_sb {a b : ByteArray} {c d : Int} (h : a = b) (g : c = d) : Ending.returned (.tuple #[.string a, .int .i64 c]) = .returned (.tuple #[.string b, .int .i64 d]) := by rw [h, g]
theorem l04Take_any (st : List UInt8) (T : ByteArray) (f : Nat) (h1 : st.length ≤ 100) (h2 : T.size ≤ 100) (h3 : f ≤ st.length) (w : World) :
    Calls Tryz.prog 172 #[.string (bs st), .string T, .int .i64 f] w fun e w' => e = .returned (.tuple #[.string (bs (vTake st T.data.toList f).1), .int .i64 (vTake st T.data.toList f).2]) ∧ w = w' := by
  have hts : T.data.toList.length = T.size := rfl
  by_cases h : st.length < f + T.size
  · have e : vTake st T.data.toList f = ([], 13) := if_pos (by omega)
    rw [e]
    exact take_short (bs st) T f (by rw [bs_size]; omega) h2 (by omega) (by rw [bs_size]; omega) w
  · obtain ⟨r, hr⟩ : ∃ r, st.length = r + T.size := ⟨st.length - T.size, by omega⟩
    have hS := bs_size st
    have hd : ¬ (((bs st).size : Int) - f < T.size) := by omega
    have hs : (((bs st).size : Int) - T.size) = r := by omega
    have hrl : r ≤ (bs st).size := by omega
    have hb1 : (bs st).size ≤ 100 := by omega
    have hfr : f ≤ r := by omega
    have HX1 := Lib.hid (show (bs st).extract r (bs st).size = bs (st.drop r) by rw [hS]; exact ext_drop st r)
    have HX2 := Lib.hid (ext_take st r)
    have HT : Hid (vTake st T.data.toList f = if st.drop r = T.data.toList then (st.take r, 0) else ([], 12)) := Lib.hid (by
      unfold vTake
      rw [if_neg (by omega), show st.length - T.data.toList.length = r by omega])
    have HU := Lib.hid (bs_list (st.drop r))
    clear hS hts hr h h1 h3
    generalize vTake st T.data.toList f = V at *
    generalize bs st = S at *
    go_enter Tryz.func172, Tryz.ntmps172
    go_wp2
    · rename_i hq
      have hne : st.drop r ≠ T.data.toList := fun e => by
        rw [HX1.out, beq_yes HU.out rfl e] at hq
        simp at hq
      go_ret2
      exact ⟨ret_sb (by rw [HT.out, if_neg hne]; rfl) (by rw [HT.out, if_neg hne]), rfl⟩
    · rename_i hq
      have heq : st.drop r = T.data.toList := Classical.byContradiction fun e => by
        rw [HX1.out, beq_no HU.out rfl e] at hq
        simp at hq
      go_ret2
      exact ⟨ret_sb (by rw [HT.out, if_pos heq]; exact HX2.out) (by rw [HT.out, if_pos heq]), rfl⟩
set_option maxHeartbeats 4000000 in
theorem l04Sign_plain (k : Nat) (y : Int) (h1 : 1 ≤ k) (h2 : k ≤ 26) (h19 : k ≠ 19) (a : Option Addr) (n c : Nat) (w : World) :
    Calls Tryz.prog 171 #[.agg #[.int .i64 (k : Int), .int .i64 y], .slice a n c] w fun e w' => e = .returned (.tuple #[.string (effT k), .string (effG k)]) ∧ Below w.heap.size w w' := by
  have : k = 1 ∨ k = 2 ∨ k = 3 ∨ k = 4 ∨ k = 5 ∨ k = 6 ∨ k = 7 ∨ k = 8 ∨ k = 9 ∨ k = 10 ∨ k = 11 ∨ k = 12 ∨ k = 13 ∨ k = 14 ∨ k = 15 ∨ k = 16 ∨ k = 17 ∨ k = 18 ∨ k = 20 ∨ k = 21 ∨ k = 22 ∨ k = 23 ∨ k = 24 ∨ k = 25 ∨ k = 26 := by omega
  clear h1 h2 h19
  rcases this with rfl | rfl | rfl | rfl | rfl | rfl | rfl | rfl | rfl | rfl | rfl | rfl | rfl | rfl | rfl | rfl | rfl | rfl | rfl | rfl | rfl | rfl | rfl | rfl | rfl
  all_goals
    go_enter Tryz.func171, Tryz.ntmps171
    go_wp2
    go_ret2
    exact ⟨rfl, (Below.refl w.heap.size w).alloc (Nat.le_refl _) _⟩
theorem l04Sign_block (b o n c : Nat) (y : Nat) (z : Int) (hy : y < n) (hz : kindB z = true) (w : World) (hb : b < w.heap.size) (hk : w.cell? ⟨b, o + y, none⟩ = some (.int .i64 z)) :
    Calls Tryz.prog 171 #[.agg #[.int .i64 19, .int .i64 y], .slice (some ⟨b, o, none⟩) n c] w fun e w' => e = .returned (.tuple #[.string (takesF z), .string ⟨#[98]⟩]) ∧ Below w.heap.size w w' := by
  have HT := Lib.hid (fun w => tk4 z hz w)
  have Hb := Lib.hid ((Below.refl w.heap.size w).alloc (Nat.le_refl _) (.cells #[.int .i64 19, .int .i64 y] 137))
  have d0 := (Hb.out.cell (p := ⟨b, o + y, none⟩) hb).trans hk
  clear hk hz hb
  go_enter Tryz.func171, Tryz.ntmps171
  go_wp2_with fail
  refine Calls.mono (HT.out _) ?_
  rintro e w2 ⟨rfl, hb2⟩
  have Hb2 := Lib.hid (Hb.out.trans (hb2.mono Hb.out.size))
  clear hb2 d0
  go_wp2
  go_ret2
  exact ⟨rfl, Hb2.out⟩
end Go.Proofs.YtpdnkcfphjbbfaaGreatDoor
namespace Go.Proofs.YtpdnkcfphjbbfaaGreatDoor
open Go.ChangeShapes Go.WideShapes Go.ChangeAt Go.RowKit
set_option linter.unusedVariables false
def spC (o : VO) : List Value := [.int .i64 o.pos, .int .i64 o.op, .string (bs o.stk)]
theorem spC_len (o : VO) : (spC o).length = 3 := rfl
abbrev swO (S : ByteArray) (a : Option Addr) (n c : Nat) : Obj := .cells #[.string S, .slice a n c] 173
structure SAt (B p : Nat) (a : Option Addr) (n c : Nat) (v : VW) (w : World) : Prop where
  base : B ≤ p
  blk : w.heap[p]? = some (swO (bs v.stk) a n c)
  opens : w.ownsRow B 176 3 (.slice a n c) n (flat spC v.opn)
def SStat (B p : Nat) (v : VW) (w : World) : Prop := ∃ a n c, SAt B p a n c v w
section
variable {B p : Nat} {a : Option Addr} {n c : Nat} {v : VW} {w w' : World}
theorem SAt.olen (h : SAt B p a n c v w) : v.opn.length = n := by
  have := h.opens.1
  rw [flat_len spC_len] at this
  omega
theorem SAt.plt (h : SAt B p a n c v w) : p < w.heap.size := (Array.getElem?_eq_some_iff.1 h.blk).1
theorem SAt.low (h : SAt B p a n c v w) : B ≤ w.heap.size := Nat.le_of_lt (Nat.lt_of_le_of_lt h.base h.plt)
theorem SAt.cells (h : SAt B p a n c v w) : w.cell? ⟨p, 0, none⟩ = some (.string (bs v.stk)) ∧ w.cell? ⟨p, 1, none⟩ = some (.slice a n c) := ⟨cell_of_row _ _ 0 _ _ _ h.blk, cell_of_row _ _ 1 _ _ _ h.blk⟩
theorem SAt.frozen (h : SAt B p a n c v w) (k : Nat) : w.frozen? ⟨p, k, none⟩ = false := frozen_of_row _ _ k _ _ h.blk
theorem SAt.neo (h : SAt B p a n c v w) : Value.ownBlock (.slice a n c) ≠ some p := own_ne h.opens h.blk (by decide)
theorem SAt.bel (h : SAt B p a n c v w) (hb : Below w.heap.size w w') : SAt B p a n c v w' := ⟨h.base, (hb.block p h.plt).trans h.blk, own_bl h.opens hb⟩
theorem SAt.dn (h : SAt B p a n c v w) (q : Nat) : SAt B p a n c v (w.drewN q) := ⟨h.base, h.blk, h.opens⟩
theorem SAt.row {st : List UInt8} {os : List VO} {o : VO} (h : SAt B p a n c ⟨st, os ++ [o]⟩ w) : ∃ g m, a = some ⟨g, 0, none⟩ ∧ n = m + 1 ∧ os.length = m ∧ m + 1 ≤ c := by
  have hl := h.olen
  simp only [List.length_append, List.length_singleton] at hl
  rcases h.opens.2 with ⟨_, h0⟩ | ⟨g, cap, cur, e, _, _, hc, _⟩
  · omega
  · simp only [Value.slice.injEq] at e
    obtain ⟨rfl, _, rfl⟩ := e
    exact ⟨g, os.length, rfl, hl.symm, rfl, by omega⟩
theorem SAt.last {st : List UInt8} {os : List VO} {o : VO} {g m : Nat} (h : SAt B p (some ⟨g, 0, none⟩) (m + 1) c ⟨st, os ++ [o]⟩ w) :
    w.cell? ⟨g, m * 3, none⟩ = some (.int .i64 o.pos) ∧ w.cell? ⟨g, m * 3 + 1, none⟩ = some (.int .i64 o.op) ∧ w.cell? ⟨g, m * 3 + 2, none⟩ = some (.string (bs o.stk)) ∧ ∀ k, w.frozen? ⟨g, k, none⟩ = false := by
  have hl : os.length = m := by have := h.olen; simp at this; omega
  have hat : ∀ j, j < 3 → w.cell? ⟨g, m * 3 + j, none⟩ = (spC o)[j]? := fun j hj => by
    rw [h.opens.cellAt _ (by omega)]
    exact flat_at spC_len (show (os ++ [o])[m]? = some o by rw [← hl]; simp) hj
  exact ⟨hat 0 (by omega), hat 1 (by omega), hat 2 (by omega), fun k => h.opens.frozenAt k⟩
/-- The stack is another. -/
theorem SAt.stacked (h : SAt B p a n c v w) (st : List UInt8) (q : Nat) : SAt B p a n c ⟨st, v.opn⟩ ((w.drewN q).setCell ⟨p, 0, none⟩ (.string (bs st))) ∧ Below B w ((w.drewN q).setCell ⟨p, 0, none⟩ (.string (bs st))) :=
  ⟨⟨h.base, by simpa using wk_set (h.dn q).blk 0 (.string (bs st)), ownsRow_setCell_other (h.dn q).opens h.neo _⟩, (bel_dn (Below.refl B w) q).setCell (p := ⟨p, 0, none⟩) h.base _⟩
theorem SAt.closed {st : List UInt8} {os : List VO} {o : VO} {g m : Nat} (h : SAt B p (some ⟨g, 0, none⟩) (m + 1) c ⟨st, os ++ [o]⟩ w) (q : Nat) :
    SAt B p (some ⟨g, 0, none⟩) m c ⟨st, os⟩ ((w.drewN q).setCell ⟨p, 1, none⟩ (.slice (some ⟨g, 0, none⟩) m c)) ∧ Below B w ((w.drewN q).setCell ⟨p, 1, none⟩ (.slice (some ⟨g, 0, none⟩) m c)) := by
  have hl := h.olen
  have ho : w.ownsRow B 176 3 (.slice (some ⟨g, 0, none⟩) (m + 1) c) (m + 1) (flat spC os ++ spC o) := by
    have := h.opens
    rwa [flat_snoc] at this
  refine ⟨⟨h.base, by simpa using wk_set (h.dn q).blk 1 (.slice (some ⟨g, 0, none⟩) m c), ownsRow_setCell_other (a := ⟨p, 1, none⟩) (own_dn (own_less ho (by rw [flat_len spC_len]; simp at hl; omega)) q) (show Value.ownBlock (.slice (some ⟨g, 0, none⟩) m c) ≠ some p from h.neo) _⟩, ?_⟩
  exact (bel_dn (Below.refl B w) q).setCell (p := ⟨p, 1, none⟩) h.base _
theorem sp_last {os : List VO} {o : VO} {m : Nat} (hm : os.length = m) (k : Int) : (flat spC (os ++ [o])).set (m * 3 + 1) (.int .i64 k) = flat spC (os ++ [⟨o.pos, k, o.stk⟩]) := by
  rw [flat_snoc, flat_snoc, List.set_append_right _ _ (by rw [flat_len spC_len]; omega), flat_len spC_len, hm, show m * 3 + 1 - m * 3 = 1 by omega]
  rfl
theorem SAt.elsed {st : List UInt8} {os : List VO} {o : VO} {g m : Nat} (h : SAt B p (some ⟨g, 0, none⟩) (m + 1) c ⟨st, os ++ [o]⟩ w) (q : Nat) (k : Int) :
    SAt B p (some ⟨g, 0, none⟩) (m + 1) c ⟨st, os ++ [⟨o.pos, k, o.stk⟩]⟩ ((w.drewN q).setCell ⟨g, m * 3 + 1, none⟩ (.int .i64 k)) ∧ Below B w ((w.drewN q).setCell ⟨g, m * 3 + 1, none⟩ (.int .i64 k)) := by
  have hl : os.length = m := by have := h.olen; simp at this; omega
  have hst := ((h.dn q).opens.stored (m * 3 + 1) (.int .i64 k)).1
  rw [sp_last hl] at hst
  have hgp : g ≠ p := fun e => h.neo (by simp [Value.ownBlock, e])
  refine ⟨⟨h.base, ?_, hst⟩, (bel_dn (Below.refl B w) q).setCell (p := ⟨g, m * 3 + 1, none⟩) (h.opens.lt g rfl).1 _⟩
  rw [heap_setCell_other _ _ _ _ (fun e => hgp e.symm)]
  exact (h.dn q).blk
/-- What an opening leaves. -/
def SOpened (B p n c : Nat) (a : Option Addr) (xs z : List Value) (w w' : World) : Prop :=
  ∃ a2 c2 w1 O O', w1.ownsRow B 176 3 (.slice a2 (n + 1) c2) (n + 1) (xs ++ z) ∧ ((w.alloc O).alloc O').grownBy w1 (Value.ownBlock (.slice a n c)) ∧ w' = w1.setCell ⟨p, 1, none⟩ (.slice a2 (n + 1) c2)
theorem SAt.opened {z : VO} (h : SAt B p a n c v w) (g : SOpened B p n c a (flat spC v.opn) (spC z) w w') : SStat B p ⟨v.stk, v.opn ++ [z]⟩ w' ∧ Below B w w' := by
  obtain ⟨a2, c2, w1, O, O', ho, hg, rfl⟩ := g
  have hp : w1.heap[p]? = some (swO (bs v.stk) a n c) := (hg.block p (by have := h.plt; simp; omega) (fun e => h.neo e.symm)).trans ((Below.heap_alloc _ O' p (by have := h.plt; simp; omega)).trans ((Below.heap_alloc w O p h.plt).trans h.blk))
  refine ⟨⟨a2, n + 1, c2, h.base, by simpa using wk_set hp 1 (.slice a2 (n + 1) c2), ?_⟩, ?_⟩
  · rw [← flat_snoc] at ho
    exact ownsRow_setCell_other ho (own_ne ho hp (by decide)) _
  · have hb := ((Below.refl B w).alloc h.low O).alloc (by have := h.low; simp; omega) O'
    exact (hb.grown hg (by have := h.low; simp; omega) (fun k hk => (h.opens.lt k hk).1)).setCell (p := ⟨p, 1, none⟩) h.base _
end
theorem sfloor_none (p c : Nat) (a : Option Addr) (w : World) (h : w.cell? ⟨p, 1, none⟩ = some (.slice a 0 c)) :
    Calls Tryz.prog 173 #[.pointer (some ⟨p, 0, none⟩)] w fun e w' => e = .returned (.int .i64 0) ∧ ∃ q, w' = w.drewN q := by
  go_enter Tryz.func173, Tryz.ntmps173
  go_wp2
  go_ret
  exact ⟨rfl, 0, rfl⟩
theorem sfloor_some (p g m c : Nat) (s : ByteArray) (hm : m + 1 ≤ 100) (w : World) (h : w.cell? ⟨p, 1, none⟩ = some (.slice (some ⟨g, 0, none⟩) (m + 1) c)) (hk : w.cell? ⟨g, m * 3 + 2, none⟩ = some (.string s)) :
    Calls Tryz.prog 173 #[.pointer (some ⟨p, 0, none⟩)] w fun e w' => e = .returned (.int .i64 s.size) ∧ ∃ q, w' = w.drewN q := by
  have h1 : ((m : Int) + 1 == 0) = false := by rw [beq_eq_false_iff_ne]; omega
  go_enter Tryz.func173, Tryz.ntmps173
  go_wp2
  go_quiet (fail)
  go_wp2
  go_ret
  exact ⟨rfl, _, rfl⟩
theorem sfloor_any {B p : Nat} {v : VW} {w : World} (h : SStat B p v w) (hp : v.pre) : Calls Tryz.prog 173 #[.pointer (some ⟨p, 0, none⟩)] w fun e w' => e = .returned (.int .i64 v.floor) ∧ ∃ q, w' = w.drewN q := by
  obtain ⟨a, n, c, h⟩ := h
  obtain ⟨st, opn⟩ := v
  rcases opn_cases opn with rfl | ⟨os, o, rfl⟩
  · have hl := h.olen
    simp at hl
    subst hl
    exact sfloor_none p c a w h.cells.2
  · obtain ⟨g, m, rfl, rfl, hm, hc⟩ := h.row
    have h4 := hp.o4
    simp at h4 hm
    have := sfloor_some p g m c (bs o.stk) (by omega) w h.cells.2 h.last.2.2.1
    rw [bs_size] at this
    rw [floor_snoc]
    exact this
end Go.Proofs.YtpdnkcfphjbbfaaGreatDoor
namespace Go.Proofs.YtpdnkcfphjbbfaaGreatDoor
open Go.ChangeShapes Go.WideShapes Go.ChangeAt Go.RowKit
set_option linter.unusedVariables false
theorem oc {w : World} {a : Addr} {v : Value} (h : w.cell? a = some v) (O : Obj) : (w.alloc O).cell? a = some v :=
  (((Below.refl w.heap.size w).alloc (Nat.le_refl _) O).cell (p := a) (cells_lt h)).trans h
theorem ofz {w : World} {a : Addr} {b : Bool} {v : Value} (hc : w.cell? a = some v) (h : w.frozen? a = b) (O : Obj) : (w.alloc O).frozen? a = b :=
  (((Below.refl w.heap.size w).alloc (Nat.le_refl _) O).frozen (p := a) (cells_lt hc)).trans h
def SNest (x y : Int) (p : Nat) (i : Int) (w : World) (R : Ending → World → Prop) : Prop := Calls Tryz.prog 174 #[.pointer (some ⟨p, 0, none⟩), .agg #[.int .i64 x, .int .i64 y], .int .i64 i] w R
theorem snest_deep (p c : Nat) (a : Option Addr) (x y i : Int) (ho : x = 21 ∨ x = 24) (w : World) (h : w.cell? ⟨p, 1, none⟩ = some (.slice a 4 c)) : SNest x y p i w fun e w' => e = .returned (.int .i64 17) ∧ Below w.heap.size w w' := by
  unfold SNest
  have h1 := oc h
  clear h
  rcases ho with rfl | rfl
  all_goals
    go_enter Tryz.func174, Tryz.ntmps174
    go_wp2
    go_ret
    exact ⟨rfl, (Below.refl _ _).alloc (Nat.le_refl _) _⟩
theorem snest_none (p c : Nat) (a : Option Addr) (x y i : Int) (ho : x = 22 ∨ x = 23) (w : World) (h : w.cell? ⟨p, 1, none⟩ = some (.slice a 0 c)) : SNest x y p i w fun e w' => e = .returned (.int .i64 14) ∧ Below w.heap.size w w' := by
  unfold SNest
  have h1 := oc h
  clear h
  rcases ho with rfl | rfl
  all_goals
    go_enter Tryz.func174, Tryz.ntmps174
    go_wp2
    go_ret
    exact ⟨rfl, (Below.refl _ _).alloc (Nat.le_refl _) _⟩
theorem snest_else_not (p g m c : Nat) (y i k : Int) (hm : m + 1 ≤ 100) (hk : k ≠ 21) (w : World) (h : w.cell? ⟨p, 1, none⟩ = some (.slice (some ⟨g, 0, none⟩) (m + 1) c)) (ho : w.cell? ⟨g, m * 3 + 1, none⟩ = some (.int .i64 k)) : SNest 22 y p i w fun e w' => e = .returned (.int .i64 14) ∧ Below w.heap.size w w' := by
  unfold SNest
  have h1 := oc h
  have h2 := oc ho
  have h3 : (k != 21) = true := by rw [bne_iff_ne]; exact hk
  have h4 : ((m : Int) + 1 == 0) = false := by rw [beq_eq_false_iff_ne]; omega
  clear h ho hk
  go_enter Tryz.func174, Tryz.ntmps174
  go_wp2
  go_ret
  exact ⟨rfl, (Below.refl _ _).alloc (Nat.le_refl _) _⟩
theorem snest_level (p g m c : Nat) (x y i k : Int) (S T : ByteArray) (hx : x = 22 ∧ k = 21 ∨ x = 23) (hm : m + 1 ≤ 100) (hne : (S.toList == T.toList) = false) (w : World) (h0 : w.cell? ⟨p, 0, none⟩ = some (.string S)) (h : w.cell? ⟨p, 1, none⟩ = some (.slice (some ⟨g, 0, none⟩) (m + 1) c))
    (ho : w.cell? ⟨g, m * 3 + 1, none⟩ = some (.int .i64 k)) (ht : w.cell? ⟨g, m * 3 + 2, none⟩ = some (.string T)) : SNest x y p i w fun e w' => e = .returned (.int .i64 13) ∧ Below w.heap.size w w' := by
  unfold SNest
  have h1 := oc h
  have h2 := oc ho
  have h3 := oc h0
  have h4 := oc ht
  have h5 : ((m : Int) + 1 == 0) = false := by rw [beq_eq_false_iff_ne]; omega
  have h6 : (!(S.toList == T.toList)) = true := by rw [hne]; rfl
  clear h ho h0 ht
  rcases hx with ⟨rfl, rfl⟩ | rfl
  all_goals
    go_enter Tryz.func174, Tryz.ntmps174
    go_wp2
    go_quiet (fail)
    go_wp2
    go_ret
    exact ⟨rfl, bel_dn ((Below.refl _ _).alloc (Nat.le_refl _) _) _⟩
theorem snest_else (p g m c : Nat) (y i : Int) (S T : ByteArray) (hm : m + 1 ≤ 100) (hne : (S.toList == T.toList) = true) (w : World) (h0 : w.cell? ⟨p, 0, none⟩ = some (.string S)) (h : w.cell? ⟨p, 1, none⟩ = some (.slice (some ⟨g, 0, none⟩) (m + 1) c))
    (ho : w.cell? ⟨g, m * 3 + 1, none⟩ = some (.int .i64 21)) (fo : w.frozen? ⟨g, m * 3 + 1, none⟩ = false) (ht : w.cell? ⟨g, m * 3 + 2, none⟩ = some (.string T)) :
    SNest 22 y p i w fun e w' => e = .returned (.int .i64 0) ∧ ∃ O q, w' = ((w.alloc O).drewN q).setCell ⟨g, m * 3 + 1, none⟩ (.int .i64 22) := by
  unfold SNest
  have h1 := oc h
  have h2 := oc ho
  have h3 := oc h0
  have h4 := oc ht
  have hf := ofz ho fo
  have h5 : ((m : Int) + 1 == 0) = false := by rw [beq_eq_false_iff_ne]; omega
  have h6 : (!(S.toList == T.toList)) = false := by rw [hne]; rfl
  clear h ho h0 ht fo
  go_enter Tryz.func174, Tryz.ntmps174
  go_wp2
  go_quiet (fail)
  go_wp2
  go_ret
  exact ⟨rfl, _, _, rfl⟩
theorem snest_end (p g m c : Nat) (y i k : Int) (S T : ByteArray) (hm : m + 1 ≤ 100) (hmc : m + 1 ≤ c) (hne : (S.toList == T.toList) = true) (w : World) (h0 : w.cell? ⟨p, 0, none⟩ = some (.string S)) (h : w.cell? ⟨p, 1, none⟩ = some (.slice (some ⟨g, 0, none⟩) (m + 1) c)) (fp : w.frozen? ⟨p, 1, none⟩ = false)
    (ho : w.cell? ⟨g, m * 3 + 1, none⟩ = some (.int .i64 k)) (ht : w.cell? ⟨g, m * 3 + 2, none⟩ = some (.string T)) :
    SNest 23 y p i w fun e w' => e = .returned (.int .i64 0) ∧ ∃ O q, w' = ((w.alloc O).drewN q).setCell ⟨p, 1, none⟩ (.slice (some ⟨g, 0, none⟩) m c) := by
  unfold SNest
  have h1 := oc h
  have h2 := oc ho
  have h3 := oc h0
  have h4 := oc ht
  have hf := ofz h fp
  have h5 : ((m : Int) + 1 == 0) = false := by rw [beq_eq_false_iff_ne]; omega
  have h6 : (!(S.toList == T.toList)) = false := by rw [hne]; rfl
  clear h ho h0 ht fp
  go_enter Tryz.func174, Tryz.ntmps174
  go_wp2
  go_quiet (fail)
  go_wp2
  go_ret
  exact ⟨rfl, _, _, rfl⟩
end Go.Proofs.YtpdnkcfphjbbfaaGreatDoor
namespace Go.Proofs.YtpdnkcfphjbbfaaGreatDoor
open Go.ChangeShapes Go.WideShapes Go.ChangeAt Go.RowKit
set_option linter.unusedVariables false
theorem heap_alloc_size (w : World) (O : Obj) : (w.alloc O).heap.size = w.heap.size + 1 := by simp
theorem three_at (w : World) {b : Nat} (hb : b = w.heap.size) (a d e : Value) (t : TypeId) : ∀ j u, [a, d, e][j]? = some u → (w.alloc (.cells #[a, d, e] t)).cell? ((⟨b, 0, none⟩ : Addr).add j) = some u := by
  subst hb
  exact three_cells w a d e t
set_option maxHeartbeats 4000000 in
theorem snest_open (B p n c : Nat) (a : Option Addr) (xs : List Value) (x y i : Int) (S : ByteArray) (ho : x = 21 ∨ x = 24) (hn' : n + 1 ≤ 4) (w : World) (hB : B ≤ w.heap.size) (hp : p < w.heap.size)
    (h0 : w.cell? ⟨p, 0, none⟩ = some (.string S)) (h1 : w.cell? ⟨p, 1, none⟩ = some (.slice a n c)) (f1 : w.frozen? ⟨p, 1, none⟩ = false)
    (hown : w.ownsRow B 176 3 (.slice a n c) n xs) (hne : some p ≠ Value.ownBlock (.slice a n c)) :
    SNest x y p i w fun e w' => e = .returned (.int .i64 0) ∧ SOpened B p n c a xs [.int .i64 i, .int .i64 x, .string S] w w' := by
  unfold SNest
  obtain ⟨i0, hi, hz0, hz1, hz2⟩ := info_parts (show (Tryz.prog.info? 176).map (fun i => (i.zero, i.size, i.bytes)) = some (some (.agg #[.int .i64 0, .int .i64 0, .string ⟨#[]⟩]), 3, 32) by kernel_rfl)
  have HI := Lib.hid (And.intro hi (And.intro hz0 (And.intro hz1 hz2)))
  have Ho := Lib.hid hown
  have HN := Lib.hid hne
  have HF := Lib.hid f1
  have HC1 := Lib.hid h1
  have hk : ∀ O O' w1, ((w.alloc O).alloc O').grownBy w1 (Value.ownBlock (.slice a n c)) → w1.heap[p]? = w.heap[p]? := fun O O' w1 g =>
    (g.block p (by simp; omega) HN.out).trans ((Below.heap_alloc (w.alloc O) O' p (by simp; omega)).trans (Below.heap_alloc w O p hp))
  have HK := Lib.hid hk
  have e0 := oc h0
  have e1 := oc h1
  have HBB : Hid (∀ O O', B ≤ ((w.alloc O).alloc O').heap.size) := Lib.hid (fun O O' => by simp; omega)
  have H1c : Hid (∀ u ∈ [Value.int .i64 i, .int .i64 x, .string S], u.oneCell' = true) := Lib.hid (by simp [Value.oneCell'])
  have HM1 : Hid (n + 1 ≤ maxLen) := Lib.hid (by unfold maxLen; omega)
  have HM2 : Hid ((n + 1) * 32 ≤ 140737488355328) := Lib.hid (by omega)
  have H03 : Hid (0 < 3) := Lib.hid (by decide)
  have hn4 : ((n : Int) == 4) = false := by rw [beq_eq_false_iff_ne]; omega
  clear hi hz0 hz1 hz2 hown hne hk f1 hB h0 h1
  obtain ⟨H1, H2, H3, H4⟩ := HI.out
  rcases ho with rfl | rfl
  · go_enter Tryz.func174, Tryz.ntmps174
    go_wp2
    go_region_law (refine step_append_own rfl (.tmp 27) (.tmp 36) _ rfl B 176 i0 _ 3 32 Tryz.underlying171 H1 H2 H3 H4 rfl H03.out (.slice a n c) n xs rfl ((Ho.out.alloc _).alloc _) ⟨w.heap.size + 1, 0, none⟩ 1 1 [.int .i64 i, .int .i64 21, .string S] rfl rfl (three_at _ (heap_alloc_size w _).symm (.int .i64 i) (.int .i64 21) (.string S) _) H1c.out HM1.out HM2.out (HBB.out (.cells #[.int .i64 21, .int .i64 y] 137) (.cells #[.int .i64 i, .int .i64 21, .string S] 176)) (fun v' w' g1 g2 _ => ?_); obtain ⟨a2, c2, rfl⟩ := wk_slice g1; have G1 := Lib.hid g1; have g2 : ((w.alloc (.cells #[.int .i64 21, .int .i64 y] 137)).alloc (.cells #[.int .i64 i, .int .i64 21, .string S] 176)).grownBy w' (Value.ownBlock (.slice a n c)) := ⟨g2.os, g2.tape, g2.output, g2.size, g2.block⟩; have G2 := Lib.hid g2; have k4 := (World.frozen?_of_block (a := ⟨p, 1, none⟩) (HK.out _ _ _ g2)).trans HF.out; have k3 := (World.cell?_of_block (a := ⟨p, 1, none⟩) (HK.out _ _ _ g2)).trans HC1.out; clear g1 g2)
    all_goals go_wp2
    all_goals go_ret
    all_goals exact ⟨rfl, a2, c2, _, _, _, G1.out, G2.out, rfl⟩
  · go_enter Tryz.func174, Tryz.ntmps174
    go_wp2
    go_region_law (refine step_append_own rfl (.tmp 27) (.tmp 36) _ rfl B 176 i0 _ 3 32 Tryz.underlying171 H1 H2 H3 H4 rfl H03.out (.slice a n c) n xs rfl ((Ho.out.alloc _).alloc _) ⟨w.heap.size + 1, 0, none⟩ 1 1 [.int .i64 i, .int .i64 24, .string S] rfl rfl (three_at _ (heap_alloc_size w _).symm (.int .i64 i) (.int .i64 24) (.string S) _) H1c.out HM1.out HM2.out (HBB.out (.cells #[.int .i64 24, .int .i64 y] 137) (.cells #[.int .i64 i, .int .i64 24, .string S] 176)) (fun v' w' g1 g2 _ => ?_); obtain ⟨a2, c2, rfl⟩ := wk_slice g1; have G1 := Lib.hid g1; have g2 : ((w.alloc (.cells #[.int .i64 24, .int .i64 y] 137)).alloc (.cells #[.int .i64 i, .int .i64 24, .string S] 176)).grownBy w' (Value.ownBlock (.slice a n c)) := ⟨g2.os, g2.tape, g2.output, g2.size, g2.block⟩; have G2 := Lib.hid g2; have k4 := (World.frozen?_of_block (a := ⟨p, 1, none⟩) (HK.out _ _ _ g2)).trans HF.out; have k3 := (World.cell?_of_block (a := ⟨p, 1, none⟩) (HK.out _ _ _ g2)).trans HC1.out; clear g1 g2)
    all_goals go_wp2
    all_goals go_ret
    all_goals exact ⟨rfl, a2, c2, _, _, _, G1.out, G2.out, rfl⟩
end Go.Proofs.YtpdnkcfphjbbfaaGreatDoor
