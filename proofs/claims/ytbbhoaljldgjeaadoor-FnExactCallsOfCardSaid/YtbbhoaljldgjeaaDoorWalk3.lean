/- A walk of impl's verifier: pop and push. -/
import Derived.Test.YtbbhoaljldgjeaaDoorWalk2
namespace Go.Proofs.YtbbhoaljldgjeaaDoor
open Go.ChangeShapes Go.WideShapes Go.ChangeAt Go.RowKit
set_option linter.unusedVariables false
/-- What a floor's call ends with. -/
abbrev Floor (p : Nat) (f : Nat) (w : World) : Prop := Calls Tryd.prog 110 #[.pointer (some ⟨p, 0, none⟩)] w fun e w' => e = .returned (.int .i64 f) ∧ ∃ q, w' = w.drewN q
set_option maxRecDepth 100000 in
theorem pop_some (p g r c f : Nat) (t u : ByteArray) (hc : r + t.size ≤ c) (hn : r + t.size ≤ 100) (hf : f ≤ r) (w : World) (h3 : w.cell? ⟨p, 3, none⟩ = some (.slice (some ⟨g, 0, none⟩) (r + t.size) c)) (f3 : w.frozen? ⟨p, 3, none⟩ = false)
    (hfl : Floor p f w) (hcv : ∀ q cc, (convert 22 9 (.slice (some ⟨g, r, none⟩) t.size cc)).run Tryd.prog (w.drewN q) = .ok (.string u) (w.drewN q))
    (hcz : r = c → ∀ q cc, (convert 22 9 (.slice (some ⟨g, 0, none⟩) t.size cc)).run Tryd.prog (w.drewN q) = .ok (.string u) (w.drewN q)) (hut : (u.toList == t.toList) = true) :
    Calls Tryd.prog 93 #[.pointer (some ⟨p, 0, none⟩), .string t] w fun e w' => e = .returned (.tuple #[]) ∧ ∃ q, w' = (w.drewN q).setCell ⟨p, 3, none⟩ (.slice (some ⟨g, 0, none⟩) r c) := by
  have HFL := Lib.hid hfl
  clear hfl
  by_cases hr : r = c
  · have hz := hcz hr
    have ht : t.size = 0 := by omega
    rw [ht] at hz h3
    rw [ht, Nat.add_zero] at hc
    rw [Nat.add_zero] at h3
    have hs : ((r : Int) - (t.size : Int)) = r := by omega
    have hn2 : r ≤ 100 := by omega
    subst hr
    clear hcz hcv hn hc
    go_enter Tryd.func93, Tryd.ntmps93
    go_wp2_with fail
    refine Calls.mono HFL.out ?_
    rintro e w' ⟨rfl, q, rfl⟩
    go_wp2_with (go_at_call 85; (with_reducible refine (require_ok _ _ _).mono ?_); rintro e w' ⟨rfl, rfl⟩)
    all_goals
      go_end0
      exact ⟨rfl, _, rfl⟩
  · clear hcz
    go_enter Tryd.func93, Tryd.ntmps93
    go_wp2_with fail
    refine Calls.mono HFL.out ?_
    rintro e w' ⟨rfl, q, rfl⟩
    go_wp2_with (go_at_call 85; (with_reducible refine (require_ok _ _ _).mono ?_); rintro e w' ⟨rfl, rfl⟩)
    all_goals
      go_end0
      exact ⟨rfl, _, rfl⟩
/-- The top is of other types. -/
theorem pop_type (p g r c f : Nat) (i : Int) (t u : ByteArray) (hc : r + t.size ≤ c) (hn : r + t.size ≤ 100) (hz : 0 < t.size) (hf : f ≤ r) (w : World) (h3 : w.cell? ⟨p, 3, none⟩ = some (.slice (some ⟨g, 0, none⟩) (r + t.size) c)) (h2 : ∀ q, (w.drewN q).cell? ⟨p, 2, none⟩ = some (.int .i64 i))
    (hfl : Floor p f w) (hcv : ∀ q cc, (convert 22 9 (.slice (some ⟨g, r, none⟩) t.size cc)).run Tryd.prog (w.drewN q) = .ok (.string u) (w.drewN q)) (hut : (u.toList == t.toList) = false) :
    Calls Tryd.prog 93 #[.pointer (some ⟨p, 0, none⟩), .string t] w fun e w' => e = Off i 12 ∧ ∃ q, w' = w.drewN q := by
  have HFL := Lib.hid hfl
  have H2 := Lib.hid h2
  have hr : ¬ c = r := by omega
  have hr2 : ¬ r = c := by omega
  clear hfl h2
  go_enter Tryd.func93, Tryd.ntmps93
  go_wp2_with fail
  refine Calls.mono HFL.out ?_
  rintro e w' ⟨rfl, q, rfl⟩
  go_wp2_with (go_at_call 85; (with_reducible refine (require_ok _ _ _).mono ?_); rintro e w' ⟨rfl, rfl⟩)
  refine Calls.mono (require_no _ _ i _ (H2.out _)) ?_
  rintro e w' ⟨rfl, rfl⟩
  exact ⟨rfl, rfl, _, rfl⟩
/-- Too few elements. -/
theorem pop_short (p n c f : Nat) (a : Option Addr) (i : Int) (t : ByteArray) (hn : n ≤ 100) (ht : t.size ≤ 100) (hf : n < f + t.size) (w : World) (h3 : w.cell? ⟨p, 3, none⟩ = some (.slice a n c)) (h2 : ∀ q, (w.drewN q).cell? ⟨p, 2, none⟩ = some (.int .i64 i))
    (hfl : Floor p f w) : Calls Tryd.prog 93 #[.pointer (some ⟨p, 0, none⟩), .string t] w fun e w' => e = Off i 13 ∧ ∃ q, w' = w.drewN q := by
  have HFL := Lib.hid hfl
  have H2 := Lib.hid h2
  have hd : decide ((f : Int) ≤ (n : Int) - t.size) = false := decide_eq_false (by omega)
  have hd2 : ¬ ((f : Int) ≤ (n : Int) - t.size) := by omega
  clear hfl h2
  go_enter Tryd.func93, Tryd.ntmps93
  go_wp2_with fail
  refine Calls.mono HFL.out ?_
  rintro e w' ⟨rfl, q, rfl⟩
  go_wp2_with fail
  refine Calls.mono (require_no _ _ i _ (H2.out _)) ?_
  rintro e w' ⟨rfl, rfl⟩
  exact ⟨rfl, rfl, _, rfl⟩
/-- Nothing of nothing. -/
theorem pop_nil (p : Nat) (t : ByteArray) (ht : t.size = 0) (w : World) (h3 : w.cell? ⟨p, 3, none⟩ = some (.slice none 0 0)) (f3 : w.frozen? ⟨p, 3, none⟩ = false)
    (hfl : Floor p 0 w) (hcv : ∀ q, (convert 22 9 (.slice none 0 0)).run Tryd.prog (w.drewN q) = .ok (.string ⟨#[]⟩) (w.drewN q)) (hut : t.toList.isEmpty = true) :
    Calls Tryd.prog 93 #[.pointer (some ⟨p, 0, none⟩), .string t] w fun e w' => e = .returned (.tuple #[]) ∧ ∃ q, w' = (w.drewN q).setCell ⟨p, 3, none⟩ (.slice none 0 0) := by
  have HFL := Lib.hid hfl
  clear hfl
  go_enter Tryd.func93, Tryd.ntmps93
  go_wp2_with fail
  refine Calls.mono HFL.out ?_
  rintro e w' ⟨rfl, q, rfl⟩
  go_wp2_with (go_at_call 85; (with_reducible refine (require_ok _ _ _).mono ?_); rintro e w' ⟨rfl, rfl⟩)
  go_end0
  exact ⟨rfl, _, rfl⟩
/-- What push leaves: the stack and the text behind it, in the walk's block. -/
def Pushed (B p n : Nat) (c : Nat) (a : Option Addr) (xs : List Value) (t : ByteArray) (w w' : World) : Prop :=
  ∃ a2 c2 w1, w1.ownsRow B 5 1 (.slice a2 (n + t.size) c2) (n + t.size) (xs ++ Lib.strCells t) ∧ w.grownBy w1 (Value.ownBlock (.slice a n c)) ∧ w' = w1.setCell ⟨p, 3, none⟩ (.slice a2 (n + t.size) c2)
theorem wk_slice {w : World} {B n size : Nat} {v : Value} {e : TypeId} {xs : List Value} (h : w.ownsRow B e size v n xs) : ∃ a c, v = .slice a n c := by
  rcases h.2 with ⟨rfl, rfl⟩ | ⟨g, cap, cur, rfl, _⟩
  · exact ⟨_, _, rfl⟩
  · exact ⟨_, _, rfl⟩
set_option maxRecDepth 100000 in
theorem push_ok (B p n c : Nat) (a : Option Addr) (xs : List Value) (t : ByteArray) (ht : n + t.size ≤ 8) (w : World) (hB : B ≤ w.heap.size) (hp : p < w.heap.size) (h3 : w.cell? ⟨p, 3, none⟩ = some (.slice a n c)) (f3 : w.frozen? ⟨p, 3, none⟩ = false)
    (ho : w.ownsRow B 5 1 (.slice a n c) n xs) (hne : some p ≠ Value.ownBlock (.slice a n c)) :
    Calls Tryd.prog 94 #[.pointer (some ⟨p, 0, none⟩), .string t] w fun e w' => e = .returned (.tuple #[]) ∧ Pushed B p n c a xs t w w' := by
  obtain ⟨i0, hi, hz0, hz1, hz2⟩ := info_parts (show (Tryd.prog.info? 5).map (fun i => (i.zero, i.size, i.bytes)) = some (some (.int .u8 0), 1, 1) by kernel_rfl)
  have HI := Lib.hid (And.intro hi (And.intro hz0 (And.intro hz1 hz2)))
  have Ho := Lib.hid ho
  have HN := Lib.hid hne
  have HF := Lib.hid f3
  have hd : decide ((n : Int) + t.size ≤ 8) = true := decide_eq_true (by omega)
  clear hi hz0 hz1 hz2 ho hne
  go_enter Tryd.func94, Tryd.ntmps94
  go_wp2_with (at_builtin; go_must (refine Lib.wpList_append_own_string _ rfl (.tmp 8) (.tmp 9) _ _ rfl B 5 i0 Tryd.underlying22 Tryd.underlying9 HI.out.1 HI.out.2.1 HI.out.2.2.1 HI.out.2.2.2 (.slice a n c) n xs rfl Ho.out t rfl (by unfold maxLen; omega) (by omega) hB ?_); intro v1 w1 hown1 hgrow1 _; obtain ⟨a2, c2, rfl⟩ := wk_slice hown1; have Ho1 := Lib.hid hown1; have Hg1 := Lib.hid hgrow1; have k3 := (World.cell?_of_block (a := ⟨p, 3, none⟩) (hgrow1.block p hp HN.out)).trans h3; have k4 := (World.frozen?_of_block (a := ⟨p, 3, none⟩) (hgrow1.block p hp HN.out)).trans HF.out; clear hown1 hgrow1)
  go_wp2_with fail
  refine (require_ok _ _ _).mono ?_
  rintro e w' ⟨rfl, rfl⟩
  go_wp2_with fail
  go_end0
  exact ⟨rfl, a2, c2, w1, Ho1.out, Hg1.out, rfl⟩
set_option maxRecDepth 100000 in
theorem push_no (B p n c : Nat) (a : Option Addr) (xs : List Value) (t : ByteArray) (i : Int) (ht : 8 < n + t.size) (hn : n ≤ 100) (hm : t.size ≤ 100) (w : World) (hB : B ≤ w.heap.size) (hp : p < w.heap.size) (h3 : w.cell? ⟨p, 3, none⟩ = some (.slice a n c)) (f3 : w.frozen? ⟨p, 3, none⟩ = false)
    (ho : w.ownsRow B 5 1 (.slice a n c) n xs) (hne : some p ≠ Value.ownBlock (.slice a n c)) (hq : B ≤ p) (h2 : w.cell? ⟨p, 2, none⟩ = some (.int .i64 i)) :
    Calls Tryd.prog 94 #[.pointer (some ⟨p, 0, none⟩), .string t] w fun e w' => e = Off i 7 ∧ Below B w w' := by
  obtain ⟨i0, hi, hz0, hz1, hz2⟩ := info_parts (show (Tryd.prog.info? 5).map (fun i => (i.zero, i.size, i.bytes)) = some (some (.int .u8 0), 1, 1) by kernel_rfl)
  have HI := Lib.hid (And.intro hi (And.intro hz0 (And.intro hz1 hz2)))
  have Ho := Lib.hid ho
  have HN := Lib.hid hne
  have HF := Lib.hid f3
  have H2 := Lib.hid h2
  have HQ := Lib.hid hq
  clear h2 hq
  have hd : decide ((n : Int) + t.size ≤ 8) = false := decide_eq_false (by omega)
  clear hi hz0 hz1 hz2 ho hne
  go_enter Tryd.func94, Tryd.ntmps94
  go_wp2_with (at_builtin; go_must (refine Lib.wpList_append_own_string _ rfl (.tmp 8) (.tmp 9) _ _ rfl B 5 i0 Tryd.underlying22 Tryd.underlying9 HI.out.1 HI.out.2.1 HI.out.2.2.1 HI.out.2.2.2 (.slice a n c) n xs rfl Ho.out t rfl (by unfold maxLen; omega) (by omega) hB ?_); intro v1 w1 hown1 hgrow1 _; obtain ⟨a2, c2, rfl⟩ := wk_slice hown1; have Ho1 := Lib.hid hown1; have Hg1 := Lib.hid hgrow1; have k3 := (World.cell?_of_block (a := ⟨p, 3, none⟩) (hgrow1.block p hp HN.out)).trans h3; have k4 := (World.frozen?_of_block (a := ⟨p, 3, none⟩) (hgrow1.block p hp HN.out)).trans HF.out; clear hown1 hgrow1)
  go_wp2_with fail
  refine Calls.mono (require_no _ _ i _ (by have k2 := (World.cell?_of_block (a := ⟨p, 2, none⟩) (Hg1.out.block p hp HN.out)).trans H2.out; simpa [go_sem] using k2)) ?_
  rintro e w' ⟨rfl, rfl⟩
  exact ⟨rfl, rfl, ((Below.refl B w).grown Hg1.out hB (fun k hk => (Ho.out.lt k hk).1)).setCell (p := ⟨p, 3, none⟩) HQ.out _⟩
end Go.Proofs.YtbbhoaljldgjeaaDoor
