/- Marks of a new core. -/
import Derived.Test.YtnehaidkhpjpbaaDoorNewO
namespace Go.Proofs.YtnehaidkhpjpbaaDoor
open Go.ChangeShapes Go.WideShapes Go.ChangeAt Go.RowKit
set_option linter.unusedVariables false
def mR (n : Nat) : List Value := if n = 0 then [] else [.int .i64 1, .int .i64 2, .slice none 0 0]
theorem markNil (m : Int) (hm : 0 ≤ m ∧ m ≤ 1000000000) (w : World) : Calls Tryd.prog 28 #[.slice none 0 0, .int .i64 m] w fun e w' => e = .returned (.int .i64 m) ∧ w.grownBy w' none :=
  (markIntS_own w.heap.size 0 0 none [] m hm (by omega) w (World.ownsRow_nil _ _ _ _)).mono fun e w' ⟨h1, _, h3⟩ => ⟨by rw [h1]; simp, h3⟩
theorem heldNil (m : Int) (hm : 0 ≤ m ∧ m ≤ 1000000000) (w : World) : Calls Tryd.prog 29 #[.slice none 0 0, .int .i64 m] w fun e w' => e = .returned (.int .i64 m) ∧ w = w' :=
  (heldIntS_any 0 0 none m hm (by omega) w (.inl rfl)).mono fun e w' ⟨h1, h3⟩ => ⟨by rw [h1]; simp, h3⟩
set_option maxRecDepth 100000 in
set_option maxHeartbeats 1000000 in
theorem markFrame1_any (B n c : Nat) (a : Option Addr) (r p : Int) (xs : List Value) (hn : n ≤ 1) (hx : n = 1 → xs = [.int .i64 r, .int .i64 p, .slice none 0 0]) (w : World) (ho : w.ownsRow B 149 3 (.slice a n c) n xs) :
    Calls Tryd.prog 82 #[.slice a n c, .int .i64 1] w fun e w' => e = .returned (.int .i64 (1 + 2 * n)) ∧ w'.ownsRow B 149 3 (.slice a n c) n (mR n) ∧ w.grownBy w' (Value.ownBlock (.slice a n c)) := by
  by_cases h0 : n = 0
  · subst h0
    have hxs : xs = [] := List.eq_nil_of_length_eq_zero (by have := ho.1; omega)
    subst hxs
    have HO := Lib.hid ho
    clear ho hx
    go_enter Tryd.func82, Tryd.ntmps82
    go_wp2
    go_loop [1, 5] (fun q i => q = .int .i64 1 ∧ i = .int .i64 0) (fun _ i => 0)
    case atStart => exact ⟨rfl, rfl⟩
    case round =>
      obtain ⟨rfl, rfl⟩ := hrel
      go_wp2
      go_ret
      exact ⟨by simp, HO.out, World.grownBy.refl _ _⟩
  · obtain rfl : n = 1 := by omega
    obtain rfl := hx rfl
    obtain ⟨g, c', e1⟩ := own_some' ho (fun e => by simp at e)
    simp only [Value.slice.injEq, true_and] at e1
    obtain ⟨rfl, rfl⟩ := e1
    have HO := Lib.hid ho
    clear ho hx h0
    go_enter Tryd.func82, Tryd.ntmps82
    go_wp2
    go_loopw [1, 5] (fun q i wr => ∃ k : Nat, k ≤ 1 ∧ i = .int .i64 k ∧ q = .int .i64 (1 + 2 * k) ∧ Hid (wr.ownsRow B 149 3 (.slice (some ⟨g, 0, none⟩) 1 c) 1 (if k = 0 then [.int .i64 r, .int .i64 p, .slice none 0 0] else mR 1)) ∧ Hid (w.grownBy wr (some g))) (fun _ i _ => 1 - (intOf i).toNat)
    case atStart => exact ⟨0, by omega, rfl, by go_num, HO, Lib.hid (World.grownBy.refl _ _)⟩
    case round =>
      obtain ⟨k, hk, rfl, rfl, ho, hg⟩ := hrel
      by_cases hlt : k < 1
      · obtain rfl : k = 0 := by omega
        rw [if_pos rfl] at ho
        have d0 := ho.out.cellAt 0 (by omega)
        have d1 := ho.out.cellAt 1 (by omega)
        have d2 := ho.out.cellAt 2 (by omega)
        simp only [List.getElem?_cons_zero, List.getElem?_cons_succ] at d0 d1 d2
        have f0 := ho.out.frozenAt 0
        have f1 := ho.out.frozenAt 1
        obtain ⟨h1, g1⟩ := ho.out.stored 0 (.int .i64 1)
        obtain ⟨h2, g2⟩ := h1.stored 1 (.int .i64 2)
        have HO2 := Lib.hid h2
        have HG2 := Lib.hid (row_tr hg.out (row_tr g1 g2))
        clear h1 h2 g1 g2
        go_wp2_with fail
        refine Calls.mono (markNil 3 (by omega) _) ?_
        rintro e w3 ⟨rfl, hg3⟩
        have HO3 := Lib.hid (HO2.out.kept hg3 (Or.inr (by simp [Value.ownBlock])))
        have HG3 := Lib.hid (row_tr HG2.out ⟨hg3.os, hg3.tape, hg3.output, hg3.size, fun k hk _ => hg3.block k hk (by simp)⟩)
        clear hg3
        go_wp2
        go_roundw
        case rel => exact ⟨1, by omega, by go_num, by go_num, HO3, HG3⟩
        case measure => simp [intOf]
      · obtain rfl : k = 1 := by omega
        go_wp2
        go_ret
        exact ⟨rfl, ho.out, hg.out⟩
set_option maxRecDepth 100000 in
set_option maxHeartbeats 1000000 in
theorem heldFrame1_any (n c : Nat) (a : Option Addr) (hn : n ≤ 1) (w : World) (hz : Lies w a (mR n)) :
    Calls Tryd.prog 83 #[.slice a n c, .int .i64 1] w fun e w' => e = .returned (.int .i64 (1 + 2 * n)) ∧ w = w' := by
  have HZ := Lib.hid hz
  clear hz
  go_enter Tryd.func83, Tryd.ntmps83
  go_wp2
  go_loop [1, 5] (fun q i => ∃ k : Nat, k ≤ n ∧ i = .int .i64 k ∧ q = .int .i64 (1 + 2 * k)) (fun _ i => n - (intOf i).toNat)
  case atStart => exact ⟨0, Nat.zero_le _, rfl, by go_num⟩
  case round =>
    obtain ⟨k, hk, rfl, rfl⟩ := hrel
    by_cases hlt : k < n
    · obtain rfl : n = 1 := by omega
      obtain rfl : k = 0 := by omega
      obtain ⟨b, o, rfl, hbl, hcs⟩ := HZ.out.open (by decide)
      have c0 := hcs 0 _ rfl
      have c1 := hcs 1 _ rfl
      have c2 := hcs 2 _ rfl
      rw [Nat.add_zero] at c0
      clear hcs
      go_wp2_with fail
      refine Calls.mono (heldNil 3 (by omega) _) ?_
      rintro e w3 ⟨rfl, rfl⟩
      go_wp2
      go_round
      case rel => exact ⟨1, by omega, by go_num, by go_num⟩
      case measure => simp [intOf]
    · obtain rfl : k = n := by omega
      go_wp2
      go_ret
      exact ⟨rfl, rfl⟩
set_option maxRecDepth 100000 in
set_option maxHeartbeats 1000000 in
theorem markNew_any (B n c : Nat) (a : Option Addr) (r p : Int) (xs : List Value) (hn : n ≤ 1) (hx : n = 1 → xs = [.int .i64 r, .int .i64 p, .slice none 0 0]) (w : World) (ho : w.ownsRow B 149 3 (.slice a n c) n xs) :
    Calls Tryd.prog 44 #[.agg #[.slice a n c, .slice none 0 0], .int .i64 1] w fun e w' => e = .returned (.int .i64 (1 + 2 * n)) ∧ w'.ownsRow B 149 3 (.slice a n c) n (mR n) ∧ w.grownBy w' (Value.ownBlock (.slice a n c)) := by
  have HA := Lib.hid (World.grownBy_alloc w (.cells #[.slice a n c, .slice none 0 0] 62) (Value.ownBlock (.slice a n c)))
  have HO := Lib.hid (own_bl ho (dbox w (.cells #[.slice a n c, .slice none 0 0] 62)))
  have HK := Lib.hid (heap_alloc_new w (.cells #[.slice a n c, .slice none 0 0] 62))
  have HLT : Hid (∀ q, Value.ownBlock (.slice a n c) = some q → q ≠ w.heap.size) := Lib.hid (fun q e => by have := (ho.lt q e).2; omega)
  clear ho
  go_enter Tryd.func44, Tryd.ntmps44
  go_wp2_with fail
  refine Calls.mono (markFrame1_any B n c a r p xs hn hx _ HO.out) ?_
  rintro e w1 ⟨rfl, ho, hg⟩
  have k1 := (hg.block w.heap.size (Array.getElem?_eq_some_iff.1 HK.out).1 (fun e => (HLT.out _ e.symm) rfl)).trans HK.out
  have c1 := cell_of_row w1 w.heap.size 1 _ _ _ k1
  have HG := Lib.hid (row_tr HA.out hg)
  have HO1 := Lib.hid ho
  clear hg ho k1
  go_wp2_with fail
  refine Calls.mono (markNil (1 + 2 * n) (by omega) _) ?_
  rintro e w2 ⟨rfl, hg⟩
  have HO2 := Lib.hid (HO1.out.kept hg (by
    cases a with
    | none => exact .inl rfl
    | some x => exact .inr (by simp [Value.ownBlock])))
  have HG2 := Lib.hid (row_tr HG.out ⟨hg.os, hg.tape, hg.output, hg.size, fun k hk _ => hg.block k hk (by simp)⟩)
  clear hg
  go_wp2
  go_ret
  exact ⟨rfl, HO2.out, HG2.out⟩
set_option maxRecDepth 100000 in
set_option maxHeartbeats 1000000 in
theorem heldNew_any (n c : Nat) (a : Option Addr) (hn : n ≤ 1) (w : World) (hz : Lies w a (mR n)) :
    Calls Tryd.prog 45 #[.agg #[.slice a n c, .slice none 0 0], .int .i64 1] w fun e w' => e = .returned (.int .i64 (1 + 2 * n)) ∧ Below w.heap.size w w' := by
  have HB := Lib.hid (dbox w (.cells #[.slice a n c, .slice none 0 0] 62))
  have HZ := Lib.hid (hz.below HB.out (Nat.le_refl _))
  clear hz
  have h1 : ¬ ((1 : Int) + 2 * n < 0) := by omega
  go_enter Tryd.func45, Tryd.ntmps45
  go_wp2_with fail
  refine Calls.mono (heldFrame1_any n c a hn _ HZ.out) ?_
  rintro e w1 ⟨rfl, rfl⟩
  go_wp2_with fail
  refine Calls.mono (heldNil (1 + 2 * n) (by omega) _) ?_
  rintro e w2 ⟨rfl, rfl⟩
  go_wp2
  go_ret
  exact ⟨rfl, HB.out⟩
end Go.Proofs.YtnehaidkhpjpbaaDoor
