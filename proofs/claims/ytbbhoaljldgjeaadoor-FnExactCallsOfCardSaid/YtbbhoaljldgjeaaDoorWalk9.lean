/- A walk of impl's verifier against the plain verifier: what each method does, in its words. -/
import Derived.Test.YtbbhoaljldgjeaaDoorWalk8
namespace Go.Proofs.YtbbhoaljldgjeaaDoor
open Go.ChangeShapes Go.WideShapes Go.ChangeAt Go.RowKit
set_option linter.unusedVariables false
/-- An open structure of the plain verifier as impl keeps it. -/
def so (o : VO) : SO := (o.pos, (o.stk.length : Int), o.op == 21)
/-- What lies below an open structure is still there. -/
structure VW.pre (w : VW) : Prop where
  pfx : ∀ o ∈ w.opn, o.stk <+: w.stk
  asc : w.opn.Pairwise (fun a b => a.stk.length ≤ b.stk.length)
  s8 : w.stk.length ≤ 8
  o4 : w.opn.length ≤ 4
theorem pre_start : VW.pre ⟨[], []⟩ := ⟨by simp, .nil, Nat.zero_le _, Nat.zero_le _⟩
def WStat (B p : Nat) (K : Value) (r i : Int) (v : VW) (w : World) : Prop := ∃ a n c a' n' c', WAt B p K r i a n c a' n' c' v.stk (v.opn.map so) w
theorem opn_cases (l : List VO) : l = [] ∨ ∃ os o, l = os ++ [o] := by
  rcases List.eq_nil_or_concat l with h | ⟨os, o, h⟩
  · exact .inl h
  · exact .inr ⟨os, o, by simpa using h⟩
theorem floor_nil (st : List UInt8) : VW.floor ⟨st, []⟩ = 0 := rfl
section
variable {B p : Nat} {K : Value} {r i : Int} {a a' : Option Addr} {n c n' c' : Nat} {stk : List UInt8} {opn : List SO} {w w' : World}
theorem WAt.opened_row {os : List SO} {z : SO} (h : WAt B p K r i a n c a' n' c' stk (os ++ [z]) w) : ∃ g m, a' = some ⟨g, 0, none⟩ ∧ n' = m + 1 ∧ os.length = m ∧ m + 1 ≤ c' := by
  have hl := h.olen
  simp only [List.length_append, List.length_singleton] at hl
  rcases h.opens.2 with ⟨_, h0⟩ | ⟨g, cap, cur, e, _, _, hc, _⟩
  · omega
  · simp only [Value.slice.injEq] at e
    obtain ⟨rfl, _, rfl⟩ := e
    exact ⟨g, os.length, rfl, hl.symm, rfl, by omega⟩
theorem WAt.last {os : List SO} {z : SO} {g m : Nat} (h : WAt B p K r i a n c (some ⟨g, 0, none⟩) (m + 1) c' stk (os ++ [z]) w) :
    w.cell? ⟨g, m * 3, none⟩ = some (.int .i64 z.1) ∧ w.cell? ⟨g, m * 3 + 1, none⟩ = some (.int .i64 z.2.1) ∧ w.cell? ⟨g, m * 3 + 2, none⟩ = some (.bool z.2.2) ∧ ∀ k, w.frozen? ⟨g, k, none⟩ = false := by
  have hl : os.length = m := by have := h.olen; simp at this; omega
  have hat : ∀ j, j < 3 → w.cell? ⟨g, m * 3 + j, none⟩ = (soC z)[j]? := fun j hj => by
    rw [h.opens.cellAt _ (by omega)]
    exact flat_at soC_len (show (os ++ [z])[m]? = some z by rw [← hl]; simp) hj
  exact ⟨hat 0 (by omega), hat 1 (by omega), hat 2 (by omega), fun k => h.opens.frozenAt k⟩
theorem WAt.floor {v : VW} (h : WAt B p K r i a n c a' n' c' v.stk (v.opn.map so) w) (hp : v.pre) : Floor p v.floor w := by
  obtain ⟨st, opn⟩ := v
  rcases opn_cases opn with rfl | ⟨os, o, rfl⟩
  · have hl := h.olen
    simp at hl
    subst hl
    exact floor_none p c' a' w h.cells.2.2.2.2
  · have h' := h
    rw [List.map_append, List.map_singleton] at h'
    obtain ⟨g, m, rfl, rfl, hm, hc⟩ := h'.opened_row
    have h4 := hp.o4
    simp at h4 hm
    have hk := h'.last.2.1
    have e : VW.floor ⟨st, os ++ [o]⟩ = o.stk.length := floor_snoc st os o
    rw [e]
    exact floor_some p g m c' o.stk.length (by omega) w h'.cells.2.2.2.2 hk
end
theorem u8s_bytes {w : World} {B g n c : Nat} {st : List UInt8} (h : w.ownsRow B 5 1 (.slice (some ⟨g, 0, none⟩) n c) n (u8s st)) (r k : Nat) (hk : r + k = n) (cc : Nat) (q : Nat) :
    (convert 22 9 (.slice (some ⟨g, r, none⟩) k cc)).run Tryd.prog (w.drewN q) = .ok (.string ⟨(st.drop r).toArray⟩) (w.drewN q) := by
  have hl : st.length = n := by have := h.1; rw [u8s_len] at this; omega
  have hk' : k = (st.drop r).length := by rw [List.length_drop]; omega
  rw [hk']
  exact run_convert_bytes_back (P := Tryd.prog) (w.drewN q) 22 9 5 ⟨g, r, none⟩ cc (st.drop r) Tryd.underlying22 Tryd.underlying5 Tryd.underlying9 (fun j hj => by
    have hc := h.cellAt (r + j) (by rw [List.length_drop] at hj; omega)
    rw [List.length_drop] at hj
    have h2 : (u8s st)[r + j]? = some (.int .u8 ((st.drop r)[j]'(by rw [List.length_drop]; omega)).toNat) := by simp [u8s, List.getElem?_eq_getElem (show r + j < st.length by omega)]
    rw [h2] at hc
    rw [show (⟨g, r, none⟩ : Addr).add j = ⟨g, r + j, none⟩ by simp [Addr.add]]
    exact hc)
theorem beq_yes {x y : List UInt8} {u t : ByteArray} (hu : u.data.toList = x) (ht : t.data.toList = y) (h : x = y) : (u.toList == t.toList) = true := by
  rw [ByteArray.toList_eq, ByteArray.toList_eq, hu, ht, h]
  simp
theorem beq_no {x y : List UInt8} {u t : ByteArray} (hu : u.data.toList = x) (ht : t.data.toList = y) (h : x ≠ y) : (u.toList == t.toList) = false := by
  rw [ByteArray.toList_eq, ByteArray.toList_eq, hu, ht]
  simpa using h
/-- pop, in the plain verifier's words. -/
theorem pop_any {B p : Nat} {K : Value} {r i : Int} {v : VW} {w : World} (h : WStat B p K r i v w) (hp : v.pre) (t : ByteArray) (ht : t.size ≤ 3) :
    Calls Tryd.prog 93 #[.pointer (some ⟨p, 0, none⟩), .string t] w fun e w' => Below B w w' ∧
      (((vTake v.stk t.data.toList v.floor).2 = 0 ∧ e = .returned (.tuple #[]) ∧ WStat B p K r i ⟨(vTake v.stk t.data.toList v.floor).1, v.opn⟩ w' ∧ Keeps w w') ∨ ((vTake v.stk t.data.toList v.floor).2 ≠ 0 ∧ e = Off i (vTake v.stk t.data.toList v.floor).2)) := by
  obtain ⟨a, n, c, a', n', c', h⟩ := h
  have hn := h.slen
  have h8 := hp.s8
  obtain ⟨c0, c1, c2, c3, c4⟩ := h.cells
  have hfl := h.floor hp
  have hfle : v.floor ≤ v.stk.length := by
    obtain ⟨st, opn⟩ := v
    rcases opn_cases opn with rfl | ⟨os, o, rfl⟩
    · exact Nat.zero_le _
    · rw [floor_snoc]
      exact (hp.pfx o (by simp)).length_le
  have hts : t.data.toList.length = t.size := rfl
  generalize hF : v.floor = f at *
  by_cases h1 : v.stk.length < f + t.data.toList.length
  · have e : vTake v.stk t.data.toList f = ([], 13) := if_pos h1
    rw [e]
    exact (pop_short p n c f a i t (by omega) (by omega) (by omega) w c3 (fun q => c2) hfl).mono fun e w' ⟨he, q, hw⟩ => ⟨hw ▸ bel_dn (Below.refl B w) q, .inr ⟨by decide, he⟩⟩
  · have hk : n = (n - t.size) + t.size := by omega
    have hst : v.stk = v.stk.take (n - t.size) ++ v.stk.drop (n - t.size) := (List.take_append_drop _ _).symm
    have hdl : v.stk.length - t.data.toList.length = n - t.size := by omega
    by_cases h2 : v.stk.drop (n - t.size) = t.data.toList
    · have e : vTake v.stk t.data.toList f = (v.stk.take (n - t.size), 0) := by unfold vTake; rw [if_neg h1, hdl, if_pos h2]
      rw [e]
      rcases h.stack.2 with ⟨e0, h0⟩ | ⟨g, cap, cur, e0, _, _, hcap, _⟩
      · simp only [Value.slice.injEq] at e0
        obtain ⟨rfl, rfl, rfl⟩ := e0
        have ht0 : t.size = 0 := by omega
        have hs0 : v.stk = [] := List.eq_nil_of_length_eq_zero hn
        have hf0 : f = 0 := by omega
        subst hf0
        refine (pop_nil p t ht0 w c3 (h.frozen 3) hfl (fun q => by have := Lib.run_convert_nil_bytes (P := Tryd.prog) (w.drewN q) 22 9 5 0 Tryd.underlying22 Tryd.underlying5 Tryd.underlying9; simpa using this) (by rw [ByteArray.toList_eq]; have : t.data.toList = [] := List.eq_nil_of_length_eq_zero (by omega); rw [this]; rfl)).mono fun e w' ⟨he, q, hw⟩ => ?_
        subst hw
        obtain ⟨h3, h4⟩ := h.popnil q
        exact ⟨h4.1, .inl ⟨rfl, he, ⟨none, 0, 0, a', n', c', by rw [hs0] at h3; simpa [hs0] using h3⟩, h4.2⟩⟩
      · simp only [Value.slice.injEq] at e0
        obtain ⟨rfl, _, rfl⟩ := e0
        have hR : w.ownsRow B 5 1 (.slice (some ⟨g, 0, none⟩) n c) n (u8s v.stk) := h.stack
        have hu : (⟨(v.stk.drop (n - t.size)).toArray⟩ : ByteArray).data.toList = v.stk.drop (n - t.size) := by simp
        have h' := h
        rw [hst] at h'
        rw [hk] at h' c3 hcap
        rw [show n - t.size + t.size - t.size = n - t.size by omega] at h'
        refine (pop_some p g (n - t.size) c f t ⟨(v.stk.drop (n - t.size)).toArray⟩ hcap (by omega) (by omega) w c3 (h.frozen 3) hfl (fun q cc => u8s_bytes hR (n - t.size) t.size (by omega) cc q) (fun hr q cc => ?_) (beq_yes hu rfl h2)).mono fun e w' ⟨he, q, hw⟩ => ?_
        · have ht0 : t.size = 0 := by omega
          have e1 : v.stk.drop (n - t.size) = [] := List.drop_eq_nil_of_le (by omega)
          rw [e1, ht0]
          exact run_convert_bytes_back (P := Tryd.prog) (w.drewN q) 22 9 5 ⟨g, 0, none⟩ cc [] Tryd.underlying22 Tryd.underlying5 Tryd.underlying9 (fun j hj => by simp at hj)
        · subst hw
          obtain ⟨h3, h4⟩ := h'.popped (by simp; omega) q
          exact ⟨h4.1, .inl ⟨rfl, he, ⟨_, _, _, a', n', c', h3⟩, h4.2⟩⟩
    · have e : vTake v.stk t.data.toList f = ([], 12) := by unfold vTake; rw [if_neg h1, hdl, if_neg h2]
      rw [e]
      have hz : 0 < t.size := by
        rcases Nat.eq_zero_or_pos t.size with h0 | h0
        · refine absurd ?_ h2
          rw [List.drop_eq_nil_of_le (by omega)]
          exact (List.eq_nil_of_length_eq_zero (by omega)).symm
        · exact h0
      rcases h.stack.2 with ⟨e0, h0⟩ | ⟨g, cap, cur, e0, _, _, hcap, _⟩
      · omega
      · simp only [Value.slice.injEq] at e0
        obtain ⟨rfl, _, rfl⟩ := e0
        have hR : w.ownsRow B 5 1 (.slice (some ⟨g, 0, none⟩) n c) n (u8s v.stk) := h.stack
        have hu : (⟨(v.stk.drop (n - t.size)).toArray⟩ : ByteArray).data.toList = v.stk.drop (n - t.size) := by simp
        rw [hk] at c3 hcap
        exact (pop_type p g (n - t.size) c f i t ⟨(v.stk.drop (n - t.size)).toArray⟩ hcap (by omega) hz (by omega) w c3 (fun q => c2) hfl (fun q cc => u8s_bytes hR (n - t.size) t.size (by omega) cc q) (beq_no hu rfl h2)).mono fun e w' ⟨he, q, hw⟩ => ⟨hw ▸ bel_dn (Below.refl B w) q, .inr ⟨by decide, he⟩⟩
end Go.Proofs.YtbbhoaljldgjeaaDoor
