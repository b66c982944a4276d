/- CallsOf of impl. -/
import Derived.Test.YtbbhoaljldgjeaaDoorCallP
import Derived.Test.YtbbhoaljldgjeaaDoorShelf
import Derived.Lib.AppendIntMem
namespace Go.Proofs.YtbbhoaljldgjeaaDoor
open Go.ChangeShapes Go.WideShapes Go.ChangeAt Go.RowKit
set_option linter.unusedVariables false
def callsF (zs : List Ins) : List Int × Int := if 4096 < zs.length then ([], 2) else if 40 < zs.length then ([], 6) else if okAll zs = false then ([], 1) else (vCalls zs, 0)
/-- What CallsOf hands back: a row of its own, and the code. -/
def CallsPost (l : List Int) (d : Int) (w : World) (e : Ending) (w' : World) : Prop :=
  ∃ a c, e = .returned (.tuple #[.slice a l.length c, .int .i64 d]) ∧ w'.ownsRow w.heap.size 3 1 (.slice a l.length c) l.length (kC l) ∧ Below w.heap.size w w'
theorem callsPost_nil {w w' : World} {d : Int} (hb : Below w.heap.size w w') : CallsPost [] d w (.returned (.tuple #[.slice none 0 0, .int .i64 d])) w' :=
  ⟨none, 0, rfl, World.ownsRow_nil _ _ _ _, hb⟩
/-- A sorted and compacted row. -/
theorem sort_any (B n c : Nat) (a : Option Addr) (l : List Int) (hl : l.length = n) (hn : n ≤ 40) (w : World) (hB : B ≤ w.heap.size) (ho : w.ownsRow B 3 1 (.slice a n c) n (kC l)) :
    Calls Tryd.prog 48 #[.slice a n c] w fun e w' => e = .returned (.tuple #[]) ∧ Below B w w' ∧ w'.ownsRow B 3 1 (.slice a n c) n (kC (srt l)) := by
  by_cases h0 : n = 0
  · subst h0
    have hl0 : l = [] := List.eq_nil_of_length_eq_zero hl
    subst hl0
    refine (Tryd.slices_Sort_int_none a c w).mono fun e w' ⟨he, hw⟩ => ⟨he, hw ▸ Below.refl B _, ?_⟩
    rw [hw]
    have : srt [] = [] := by have := srt_len []; exact List.eq_nil_of_length_eq_zero this
    rw [this]
    exact ho
  · obtain ⟨g, cap, e, hbg, hgl, hnc, hm, _, hH⟩ := Lib.holds_of_ownsRow (enc := Value.int .i64) (zs := l) ho (by intro q; simp only [Value.slice.injEq] at q; omega)
    simp only [Value.slice.injEq] at e
    obtain ⟨rfl, _, rfl⟩ := e
    subst hl
    refine (Tryd.slices_Sort_int g 0 c l w hH hgl (by omega)).mono fun e w' ⟨he, q, os, hw⟩ => ⟨he, ?_, ?_⟩
    · rw [hw]
      have h1 := Lib.below_putRow (enc := Value.int .i64) (q := q) (d := (srt l).toArray) (Below.refl B w) hbg
      have h2 := Lib.below_grow B (Sort.putRow (Value.int .i64) (Sort.ahead w q) g 0 (srt l).toArray) (by have := h1.size; omega) 0 os
      exact h1.trans h2
    · rw [hw]
      have h1 := Lib.ownsRow_putRow (enc := Value.int .i64) (q := q) (k := l.length) (ys := srt l) ho (srt_len l) (Nat.le_refl _)
      rw [List.take_of_length_le (by rw [srt_len]; exact Nat.le_refl _)] at h1
      exact Lib.ownsRow_grow h1 0 os
theorem compact_any (B n c : Nat) (a : Option Addr) (l : List Int) (hl : l.length = n) (hn : n ≤ 40) (w : World) (hB : B ≤ w.heap.size) (ho : w.ownsRow B 3 1 (.slice a n c) n (kC l)) :
    Calls Tryd.prog 49 #[.slice a n c] w fun e w' => e = .returned (.slice a (Lib.compact l).length c) ∧ Below B w w' ∧ w'.ownsRow B 3 1 (.slice a (Lib.compact l).length c) (Lib.compact l).length (kC (Lib.compact l)) := by
  by_cases h0 : n = 0
  · subst h0
    have hl0 : l = [] := List.eq_nil_of_length_eq_zero hl
    subst hl0
    have e0 : Lib.compact ([] : List Int) = [] := rfl
    rw [e0]
    exact (Tryd.slices_Compact_int_empty a c w).mono fun e w' ⟨he, hw⟩ => ⟨he, hw ▸ Below.refl B _, hw ▸ ho⟩
  · obtain ⟨g, cap, e, hbg, hgl, hnc, hm, _, hH⟩ := Lib.holds_of_ownsRow (enc := Value.int .i64) (zs := l) ho (by intro q; simp only [Value.slice.injEq] at q; omega)
    simp only [Value.slice.injEq] at e
    obtain ⟨rfl, _, rfl⟩ := e
    subst hl
    have hk : (Lib.compact l).length ≤ l.length := by
      unfold Lib.compact Lib.compactUpTo
      rw [List.length_map]
      have := List.length_filter_le (Lib.keeps l.toArray) (List.range l.length)
      simpa using this
    have hh := Tryd.slices_Compact_int_arr g 0 c l.toArray w hH (by simp; omega) (by simpa using hnc)
    rw [List.size_toArray] at hh
    refine hh.mono fun e w' ⟨he, q, hw⟩ => ⟨he, ?_, ?_⟩
    · rw [hw]
      exact Lib.below_putRow (Below.refl B w) hbg
    · rw [hw]
      have h1 := Lib.ownsRow_putRow (enc := Value.int .i64) (q := q) (k := (Lib.compact l).length) (ys := Lib.compact l ++ List.replicate (l.length - (Lib.compact l).length) 0) ho (by simp; omega) hk
      rw [List.take_left'] at h1
      · exact h1
      · rfl
end Go.Proofs.YtbbhoaljldgjeaaDoor
