/- CallsOf of impl. -/
import Derived.Test.YthhmhglgjeaefaaDoorCallP
import Derived.Test.YthhmhglgjeaefaaDoorShelf
import Derived.Lib.AppendIntMem
namespace Go.Proofs.YthhmhglgjeaefaaDoor
open Go.ChangeShapes Go.WideShapes Go.ChangeAt Go.RowKit
set_option linter.unusedVariables false
def callsF (zs : List Ins) : List Int × Int := if 4096 < zs.length then ([], 2) else if 40 < zs.length then ([], 6) else if okAll zs = false then ([], 1) else (vCalls zs, 0)
/-- What CallsOf hands back: a row of its own, and the code. -/
def CallsPost (l : List Int) (d : Int) (w : World) (e : Ending) (w' : World) : Prop :=
  ∃ a c, e = .returned (.tuple #[.slice a l.length c, .int .i64 d]) ∧ w'.ownsRow w.heap.size 3 1 (.slice a l.length c) l.length (kC l) ∧ Below w.heap.size w w'
theorem callsPost_nil {w w' : World} {d : Int} (hb : Below w.heap.size w w') : CallsPost [] d w (.returned (.tuple #[.slice none 0 0, .int .i64 d])) w' :=
  ⟨none, 0, rfl, World.ownsRow_nil _ _ _ _, hb⟩
/-- A sorted and compacted row. -/
theorem sort_any (B n c : Nat) (a : Option Addr) (l : List Int) (hl : l.length = n) (hn : n ≤ 40) (w : World) (hB : B ≤ w.heap.size) (ho : w.ownsRow B 3 1 (.slice a n c) n (kC l)) :
    Calls Tryd.prog 31 #[.slice a n c] w fun e w' => e = .returned (.tuple #[]) ∧ Below B w w' ∧ w'.ownsRow B 3 1 (.slice a n c) n (kC (srt l)) := by
  by_cases h0 : n = 0
  · subst h0
    have hl0 : l = [] := List.eq_nil_of_length_eq_zero hl
    subst hl0
    refine (Tryd.slices_Sort_int_none a c w).mono fun e w' ⟨he, hw⟩ => ⟨he, hw ▸ Below.refl B _, ?_⟩
    rw [hw]
    have : srt [] = [] := by have := srt_len []; exact List.eq_nil_of_length_eq_zero this
    rw [this]
    exact ho
  · obtain ⟨g, cap, e, hbg, hgl, hnc, hm, _, hH⟩ := Lib.holds_of_ownsRow (enc := Value.int .i64) (zs := l) ho (by intro q; simp only [Value.slice.injEq] at q; omega)
    simp only [Value.slice.injEq] at e
    obtain ⟨rfl, _, rfl⟩ := e
    subst hl
    refine (Tryd.slices_Sort_int g 0 c l w hH hgl (by omega)).mono fun e w' ⟨he, q, os, hw⟩ => ⟨he, ?_, ?_⟩
    · rw [hw]
      have h1 := Lib.below_putRow (enc := Value.int .i64) (q := q) (d := (srt l).toArray) (Below.refl B w) hbg
      have h2 := Lib.below_grow B (Sort.putRow (Value.int .i64) (Sort.ahead w q) g 0 (srt l).toArray) (by have := h1.size; omega) 0 os
      exact h1.trans h2
    · rw [hw]
      have h1 := Lib.ownsRow_putRow (enc := Value.int .i64) (q := q) (k := l.length) (ys := srt l) ho (srt_len l) (Nat.le_refl _)
      rw [List.take_of_length_le (by rw [srt_len]; exact Nat.le_refl _)] at h1
      exact Lib.ownsRow_grow h1 0 os
theorem compact_any (B n c : Nat) (a : Option Addr) (l : List Int) (hl : l.length = n) (hn : n ≤ 40) (w : World) (hB : B ≤ w.heap.size) (ho : w.ownsRow B 3 1 (.slice a n c) n (kC l)) :
    Calls Tryd.prog 32 #[.slice a n c] w fun e w' => e = .returned (.slice a (Lib.compact l).length c) ∧ Below B w w' ∧ w'.ownsRow B 3 1 (.slice a (Lib.compact l).length c) (Lib.compact l).length (kC (Lib.compact l)) := by
  by_cases h0 : n = 0
  · subst h0
    have hl0 : l = [] := List.eq_nil_of_length_eq_zero hl
    subst hl0
    have e0 : Lib.compact ([] : List Int) = [] := rfl
    rw [e0]
    exact (Tryd.slices_Compact_int_empty a c w).mono fun e w' ⟨he, hw⟩ => ⟨he, hw ▸ Below.refl B _, hw ▸ ho⟩
  · obtain ⟨g, cap, e, hbg, hgl, hnc, hm, _, hH⟩ := Lib.holds_of_ownsRow (enc := Value.int .i64) (zs := l) ho (by intro q; simp only [Value.slice.injEq] at q; omega)
    simp only [Value.slice.injEq] at e
    obtain ⟨rfl, _, rfl⟩ := e
    subst hl
    have hk : (Lib.compact l).length ≤ l.length := by
      unfold Lib.compact Lib.compactUpTo
      rw [List.length_map]
      have := List.length_filter_le (Lib.keeps l.toArray) (List.range l.length)
      simpa using this
    have hh := Tryd.slices_Compact_int_arr g 0 c l.toArray w hH (by simp; omega) (by simpa using hnc)
    rw [List.size_toArray] at hh
    refine hh.mono fun e w' ⟨he, q, hw⟩ => ⟨he, ?_, ?_⟩
    · rw [hw]
      exact Lib.below_putRow (Below.refl B w) hbg
    · rw [hw]
      have h1 := Lib.ownsRow_putRow (enc := Value.int .i64) (q := q) (k := (Lib.compact l).length) (ys := Lib.compact l ++ List.replicate (l.length - (Lib.compact l).length) 0) ho (by simp; omega) hk
      rw [List.take_left'] at h1
      · exact h1
      · rfl
end Go.Proofs.YthhmhglgjeaefaaDoor
namespace Go.Proofs.YthhmhglgjeaefaaDoor
open Go.ChangeShapes Go.WideShapes Go.ChangeAt Go.RowKit
set_option linter.unusedVariables false
theorem one_cell (w : World) (a : Value) (t : TypeId) : ∀ j u, [a][j]? = some u → (w.alloc (.cells #[a] t)).cell? ((⟨w.heap.size, 0, none⟩ : Addr).add j) = some u := by
  intro j u hj
  match j, hj with
  | 0, hj => simp at hj; subst hj; simp [Addr.add]
  | j + 1, hj => simp at hj
theorem one_at (w : World) {b : Nat} (hb : b = w.heap.size) (a : Value) (t : TypeId) : ∀ j u, [a][j]? = some u → (w.alloc (.cells #[a] t)).cell? ((⟨b, 0, none⟩ : Addr).add j) = some u := by
  subst hb
  exact one_cell w a t
theorem kC_snoc (l : List Int) (z : Int) : kC l ++ [.int .i64 z] = kC (l ++ [z]) := by simp [kC]
set_option maxHeartbeats 1000000 in
theorem callsOf_any (zs : List Ins) (a : Option Addr) (c : Nat) (hm : zs.length ≤ maxLen) (w : World) (ht : OpTab w) (hz : Lies w a (flat insC zs)) :
    Calls Tryd.prog 12 #[.slice a zs.length c] w (CallsPost (callsF zs).1 (callsF zs).2 w) := by
  have HW := Lib.hid (wellFormed_any zs a c hm w ht hz)
  unfold maxLen at hm
  by_cases h1 : 4096 < zs.length
  · have e : callsF zs = ([], 2) := if_pos h1
    have HC := Lib.hid (fun w => lengthError_is (if_pos h1) a c w)
    have HP : Hid (CallsPost (callsF zs).1 (callsF zs).2 w (.returned (.tuple #[.slice none 0 0, .int .i64 2])) w) := Lib.hid (by rw [e]; exact callsPost_nil (Below.refl _ _))
    clear e HW ht hz
    generalize CallsPost (callsF zs).1 (callsF zs).2 w = POST at *
    generalize zs.length = n at *
    go_enter Tryd.func12, Tryd.ntmps12
    go_wp2_with (go_at_call 29; refine (HC.out _).mono ?_; rintro e w' ⟨rfl, rfl⟩)
    exact HP.out
  by_cases h2 : 40 < zs.length
  · have e : callsF zs = ([], 6) := (if_neg h1).trans (if_pos h2)
    have HC := Lib.hid (fun w => lengthError_is ((if_neg h1).trans (if_pos h2)) a c w)
    have HP : Hid (CallsPost (callsF zs).1 (callsF zs).2 w (.returned (.tuple #[.slice none 0 0, .int .i64 6])) w) := Lib.hid (by rw [e]; exact callsPost_nil (Below.refl _ _))
    clear e HW ht hz
    generalize CallsPost (callsF zs).1 (callsF zs).2 w = POST at *
    generalize zs.length = n at *
    go_enter Tryd.func12, Tryd.ntmps12
    go_wp2_with (go_at_call 29; refine (HC.out _).mono ?_; rintro e w' ⟨rfl, rfl⟩)
    exact HP.out
  have HC := Lib.hid (fun w => lengthError_is ((if_neg h1).trans (if_neg h2)) a c w)
  have hwe : wellB zs = okAll zs := by unfold wellB; rw [decide_eq_true (by omega)]; rfl
  rw [hwe] at HW
  cases hok : okAll zs
  · have e : callsF zs = ([], 1) := (if_neg h1).trans ((if_neg h2).trans (if_pos hok))
    have HP : Hid (∀ w', Below w.heap.size w w' → CallsPost (callsF zs).1 (callsF zs).2 w (.returned (.tuple #[.slice none 0 0, .int .i64 1])) w') := Lib.hid (fun w' hb => by rw [e]; exact callsPost_nil hb)
    rw [hok] at HW
    clear e ht hz hwe hok
    generalize CallsPost (callsF zs).1 (callsF zs).2 w = POST at *
    generalize zs.length = n at *
    go_enter Tryd.func12, Tryd.ntmps12
    go_wp2_with first | (go_at_call 29; refine (HC.out _).mono ?_; rintro e w' ⟨rfl, rfl⟩) | (go_at_call 30; refine HW.out.mono ?_; rintro e w2 ⟨rfl, hb2⟩; have Hb2 := Lib.hid hb2; clear hb2)
    exact HP.out _ Hb2.out
  have e : callsF zs = (vCalls zs, 0) := (if_neg h1).trans ((if_neg h2).trans (if_neg (by rw [hok]; decide)))
  have HP : Hid (∀ (x : Option Addr) (q : Nat) w', w'.ownsRow w.heap.size 3 1 (.slice x (Lib.compact (srt (callsL zs))).length q) (Lib.compact (srt (callsL zs))).length (kC (Lib.compact (srt (callsL zs)))) → Below w.heap.size w w' → CallsPost (callsF zs).1 (callsF zs).2 w (.returned (.tuple #[.slice x (Lib.compact (srt (callsL zs))).length q, .int .i64 0])) w') :=
    Lib.hid (fun x q w' ho hb => by rw [e]; rw [calls_eq hok] at ho ⊢; exact ⟨x, q, rfl, ho, hb⟩)
  rw [hok] at HW
  have HZ := Lib.hid hz
  have HT := Lib.hid (fun j (h : j < zs.length) => callsL_take h)
  have HFin : Hid (callsL (zs.take zs.length) = callsL zs) := Lib.hid (by rw [List.take_length])
  have HSL := Lib.hid (srt_len (callsL zs))
  have HCL := Lib.hid (callsL_le zs)
  obtain ⟨i0, hi, hz0, hz1, hz2⟩ := info_parts (show (Tryd.prog.info? 3).map (fun i => (i.zero, i.size, i.bytes)) = some (some (.int .i64 0), 1, 8) by kernel_rfl)
  have HI := Lib.hid (And.intro hi (And.intro hz0 (And.intro hz1 hz2)))
  clear e ht hz hwe hok hi hz0 hz1 hz2
  generalize CallsPost (callsF zs).1 (callsF zs).2 w = POST at *
  generalize hL : zs.length = n at *
  have HL := Lib.hid hL
  clear hL
  go_enter Tryd.func12, Tryd.ntmps12
  go_wp2_with first | (go_at_call 29; refine (HC.out _).mono ?_; rintro e w' ⟨rfl, rfl⟩) | (go_at_call 30; refine HW.out.mono ?_; rintro e w2 ⟨rfl, hb2⟩; have Hb2 := Lib.hid hb2; clear hb2)
  go_loopw [5, 18] (fun v i wr => ∃ (j m q : Nat) (x : Option Addr), j ≤ n ∧ m ≤ j ∧ i = .int .i64 j ∧ v = .slice x m q ∧ Hid ((callsL (zs.take j)).length = m) ∧ Hid (wr.ownsRow w.heap.size 3 1 (.slice x m q) m (kC (callsL (zs.take j)))) ∧ Hid (Below w.heap.size w wr)) (fun _ i _ => n - (intOf i).toNat)
  case atStart => exact ⟨0, 0, 0, none, Nat.zero_le _, Nat.le_refl _, rfl, rfl, Lib.hid rfl, Lib.hid (World.ownsRow_nil _ _ _ _), Hb2⟩
  case round =>
    obtain ⟨j, m, q, x, hj, hmj, rfl, rfl, hlen, ho, hb⟩ := hrel
    by_cases hlt : j < n
    · obtain ⟨b, o, rfl, hbl, hcs⟩ := HZ.out.open (by rw [flat_len insC_len, HL.out]; omega)
      obtain ⟨c0, c1⟩ := ins_at hcs (i := j) (by rw [HL.out]; exact hlt)
      have d0 := (hb.out.cell (p := ⟨b, o + j * 2, none⟩) hbl).trans c0
      have d1 := (hb.out.cell (p := ⟨b, o + j * 2 + 1, none⟩) hbl).trans c1
      have htk := HT.out j hlt
      clear hcs c0 c1
      generalize (zs.getD j (0, 0)).1 = u at *
      generalize (zs.getD j (0, 0)).2 = v at *
      have HB := hb.out.size
      by_cases h26 : u = 26
      · subst h26
        rw [if_pos rfl] at htk
        have HTK := Lib.hid htk
        obtain ⟨H1, H2, H3, H4⟩ := HI.out
        clear htk
        go_wp2_with (at_builtin; go_must (refine wpList_append_own _ rfl (.tmp 25) (.tmp 28) _ rfl w.heap.size 3 i0 _ 1 8 Tryd.underlying23 H1 H2 H3 H4 rfl (by decide) (.slice x m q) m (kC (callsL (zs.take j))) rfl ((ho.out.alloc _).alloc _) ⟨wr.heap.size + 1, 0, none⟩ 1 1 [.int .i64 v] rfl rfl (one_at _ (heap_alloc_size wr _).symm _ _) (by simp [Value.oneCell']) (by unfold maxLen; omega) (by omega) (by simp; omega) ?_); intro v3 w3 ho3 hg3 _; obtain ⟨x3, q3, rfl⟩ := wk_slice ho3; have Ho3 := Lib.hid ho3; have Hb3 := Lib.hid (((hb.out.alloc HB _).alloc (by simp; omega) _).grown hg3 (by simp; omega) (fun k hk => (ho.out.lt k hk).1)); clear ho3 hg3)
        have HO4 : Hid (w3.ownsRow w.heap.size 3 1 (.slice x3 (m + 1) q3) (m + 1) (kC (callsL (zs.take (j + 1))))) := Lib.hid (by rw [HTK.out, ← kC_snoc]; exact Ho3.out)
        have HL4 : Hid ((callsL (zs.take (j + 1))).length = m + 1) := Lib.hid (by rw [HTK.out, List.length_append, hlen.out]; rfl)
        go_roundw
        case rel => exact ⟨j + 1, m + 1, q3, x3, by omega, by omega, by go_num, rfl, HL4, HO4, Hb3⟩
        case measure => simp [intOf]; omega
      · rw [if_neg h26] at htk
        have HTK := Lib.hid htk
        have hq : (u == 26) = false := beq_eq_false_iff_ne.2 h26
        have HL4 : Hid ((callsL (zs.take (j + 1))).length = m) := Lib.hid (by rw [htk]; exact hlen.out)
        have HO4 : Hid ((wr.alloc (.cells #[.int .i64 u, .int .i64 v] 38)).ownsRow w.heap.size 3 1 (.slice x m q) m (kC (callsL (zs.take (j + 1))))) := Lib.hid (by rw [htk]; exact ho.out.alloc _)
        have HB4 := Lib.hid (hb.out.alloc HB (.cells #[.int .i64 u, .int .i64 v] 38))
        clear htk h26
        go_wp2
        go_roundw
        case rel => exact ⟨j + 1, m, q, x, by omega, by omega, by go_num, rfl, HL4, HO4, HB4⟩
        case measure => simp [intOf]; omega
    · obtain rfl : j = n := by omega
      have hlen' := hlen.out
      have ho' := ho.out
      rw [HFin.out] at hlen' ho'
      have hB := hb.out.size
      have HSo := Lib.hid (sort_any w.heap.size m q x (callsL zs) hlen' (by omega) wr hB ho')
      clear hlen' ho'
      go_wp2_with fail
      refine Calls.mono HSo.out ?_
      rintro e w4 ⟨rfl, hb4, ho4⟩
      have HB4 := Lib.hid (hb.out.trans hb4)
      have HCo := Lib.hid (compact_any w.heap.size m q x (srt (callsL zs)) (by rw [HSL.out]; have := hlen.out; rw [HFin.out] at this; exact this) (by omega) w4 HB4.out.size ho4)
      clear hb4 ho4
      go_wp2_with fail
      refine Calls.mono HCo.out ?_
      rintro e w5 ⟨rfl, hb5, ho5⟩
      have HB5 := Lib.hid (HB4.out.trans hb5)
      have HO5 := Lib.hid ho5
      clear hb5 ho5
      go_wp2
      exact HP.out _ _ _ HO5.out HB5.out
end Go.Proofs.YthhmhglgjeaefaaDoor
