/- A walk of impl's verifier: the table of effects, what a walk's memory holds, its small methods. -/
import Derived.Test.YtppgknjpbfopjaaGreatDoorRows
import Derived.Test.YtppgknjpbfopjaaGreatDoorCardKit
import Derived.Test.YtppgknjpbfopjaaGreatDoorRow
import Derived.Test.YtppgknjpbfopjaaGreatDoorOwn
import Derived.Test.YtppgknjpbfopjaaGreatDoorFb
import Derived.Test.YtppgknjpbfopjaaGreatDoorRouts
import Derived.Test.YtppgknjpbfopjaaGreatDoorEff
import Derived.WalkLawsBesides
import Derived.WalkSmall
import Derived.WalkSpells
import Derived.Lib.OwnKind
import Derived.Lib.AppendStr
import Derived.Deep.RegionWith
import Derived.IntWalk
import Derived.RegionDies
import Derived.Test.YtppgknjpbfopjaaGreatDoorInsOK
import Derived.Test.YtppgknjpbfopjaaGreatDoorHeld
import Derived.Test.YtppgknjpbfopjaaGreatDoorVer
import Derived.OneCell
import Derived.Test.YtppgknjpbfopjaaGreatDoorInsRow
import Derived.Defers
import Derived.Recover
namespace Go.Proofs.YtppgknjpbfopjaaGreatDoor
open Go.ChangeShapes Go.WideShapes Go.ChangeAt Go.RowKit
set_option linter.unusedVariables false
/-- An open structure, as impl keeps it. -/
abbrev SO := Int × Int × Bool
def soC (z : SO) : List Value := [.int .i64 z.1, .int .i64 z.2.1, .bool z.2.2]
theorem soC_len (z : SO) : (soC z).length = 3 := rfl
abbrev wkO (K : Value) (r i : Int) (a : Option Addr) (n c : Nat) (a' : Option Addr) (n' c' : Nat) : Obj := .cells #[K, .int .i64 r, .int .i64 i, .slice a n c, .slice a' n' c'] 244
/-- The memory of a walk: its block, its stack, what is open. -/
structure WAt (B p : Nat) (K : Value) (r i : Int) (a : Option Addr) (n c : Nat) (a' : Option Addr) (n' c' : Nat) (stk : List UInt8) (opn : List SO) (w : World) : Prop where
  base : B ≤ p
  blk : w.heap[p]? = some (wkO K r i a n c a' n' c')
  stack : w.ownsRow B 5 1 (.slice a n c) n (u8s stk)
  opens : w.ownsRow B 262 3 (.slice a' n' c') n' (flat soC opn)
theorem WAt.slen {B p : Nat} {K : Value} {r i : Int} {a : Option Addr} {n c : Nat} {a' : Option Addr} {n' c' : Nat} {stk : List UInt8} {opn : List SO} {w : World} (h : WAt B p K r i a n c a' n' c' stk opn w) : stk.length = n := by
  have := h.stack.1
  rw [u8s_len] at this
  omega
theorem WAt.olen {B p : Nat} {K : Value} {r i : Int} {a : Option Addr} {n c : Nat} {a' : Option Addr} {n' c' : Nat} {stk : List UInt8} {opn : List SO} {w : World} (h : WAt B p K r i a n c a' n' c' stk opn w) : opn.length = n' := by
  have := h.opens.1
  rw [flat_len soC_len] at this
  omega
theorem WAt.plt {B p : Nat} {K : Value} {r i : Int} {a : Option Addr} {n c : Nat} {a' : Option Addr} {n' c' : Nat} {stk : List UInt8} {opn : List SO} {w : World} (h : WAt B p K r i a n c a' n' c' stk opn w) : p < w.heap.size :=
  (Array.getElem?_eq_some_iff.1 h.blk).1
theorem WAt.cells {B p : Nat} {K : Value} {r i : Int} {a : Option Addr} {n c : Nat} {a' : Option Addr} {n' c' : Nat} {stk : List UInt8} {opn : List SO} {w : World} (h : WAt B p K r i a n c a' n' c' stk opn w) :
    w.cell? ⟨p, 0, none⟩ = some K ∧ w.cell? ⟨p, 1, none⟩ = some (.int .i64 r) ∧ w.cell? ⟨p, 2, none⟩ = some (.int .i64 i) ∧ w.cell? ⟨p, 3, none⟩ = some (.slice a n c) ∧ w.cell? ⟨p, 4, none⟩ = some (.slice a' n' c') :=
  ⟨cell_of_row _ _ 0 _ _ _ h.blk, cell_of_row _ _ 1 _ _ _ h.blk, cell_of_row _ _ 2 _ _ _ h.blk, cell_of_row _ _ 3 _ _ _ h.blk, cell_of_row _ _ 4 _ _ _ h.blk⟩
theorem WAt.frozen {B p : Nat} {K : Value} {r i : Int} {a : Option Addr} {n c : Nat} {a' : Option Addr} {n' c' : Nat} {stk : List UInt8} {opn : List SO} {w : World} (h : WAt B p K r i a n c a' n' c' stk opn w) (k : Nat) : w.frozen? ⟨p, k, none⟩ = false :=
  frozen_of_row _ _ k _ _ h.blk
/-- What a refused step ends with. -/
abbrev Off (i c : Int) : Ending := .panicked [{ v := .iface 208 (.agg #[.int .i64 i, .int .i64 c]), recovered := false }]
theorem require_ok (p : Nat) (c : Int) (w : World) : Calls Tryz.prog 231 #[.pointer (some ⟨p, 0, none⟩), .bool true, .int .i64 c] w fun e w' => e = .returned (.tuple #[]) ∧ w = w' := by
  go_enter Tryz.func231, Tryz.ntmps231
  go_wp2
  go_end0
  exact ⟨rfl, rfl⟩
theorem require_no (p : Nat) (c i : Int) (w : World) (h : w.cell? ⟨p, 2, none⟩ = some (.int .i64 i)) : Calls Tryz.prog 231 #[.pointer (some ⟨p, 0, none⟩), .bool false, .int .i64 c] w fun e w' => e = Off i c ∧ w = w' := by
  go_enter Tryz.func231, Tryz.ntmps231
  go_wp2
  exact ⟨rfl, rfl, rfl⟩
end Go.Proofs.YtppgknjpbfopjaaGreatDoor
namespace Go.Proofs.YtppgknjpbfopjaaGreatDoor
open Go.ChangeShapes Go.WideShapes Go.ChangeAt Go.RowKit
set_option linter.unusedVariables false
theorem innermost_ok (p g m c : Nat) (hm : m + 1 ≤ 100) (w : World) (h : w.cell? ⟨p, 4, none⟩ = some (.slice (some ⟨g, 0, none⟩) (m + 1) c)) :
    Calls Tryz.prog 230 #[.pointer (some ⟨p, 0, none⟩)] w fun e w' => e = .returned (.pointer (some ⟨g, m * 3, none⟩)) ∧ ∃ q, w' = w.drewN q := by
  go_enter Tryz.func230, Tryz.ntmps230
  go_wp2_with (go_at_call 231; refine (require_ok _ _ _).mono ?_; rintro e w' ⟨rfl, rfl⟩)
  go_region
  go_wp2
  go_ret
  exact ⟨by simp, _, rfl⟩
theorem innermost_no (p c : Nat) (a : Option Addr) (i : Int) (w : World) (h : w.cell? ⟨p, 4, none⟩ = some (.slice a 0 c)) (h2 : w.cell? ⟨p, 2, none⟩ = some (.int .i64 i)) :
    Calls Tryz.prog 230 #[.pointer (some ⟨p, 0, none⟩)] w fun e w' => e = Off i 14 ∧ w = w' := by
  go_enter Tryz.func230, Tryz.ntmps230
  go_wp2_with (go_at_call 231; refine (require_no _ _ i _ h2).mono ?_; rintro e w' ⟨rfl, rfl⟩)
  exact ⟨rfl, rfl, rfl⟩
theorem floor_none (p c : Nat) (a : Option Addr) (w : World) (h : w.cell? ⟨p, 4, none⟩ = some (.slice a 0 c)) :
    Calls Tryz.prog 243 #[.pointer (some ⟨p, 0, none⟩)] w fun e w' => e = .returned (.int .i64 0) ∧ ∃ q, w' = w.drewN q := by
  go_enter Tryz.func243, Tryz.ntmps243
  go_wp2
  go_ret
  exact ⟨rfl, 0, rfl⟩
theorem floor_some (p g m c : Nat) (k : Int) (hm : m + 1 ≤ 100) (w : World) (h : w.cell? ⟨p, 4, none⟩ = some (.slice (some ⟨g, 0, none⟩) (m + 1) c)) (hk : w.cell? ⟨g, m * 3 + 1, none⟩ = some (.int .i64 k)) :
    Calls Tryz.prog 243 #[.pointer (some ⟨p, 0, none⟩)] w fun e w' => e = .returned (.int .i64 k) ∧ ∃ q, w' = w.drewN q := by
  have h1 : ((m : Int) + 1 == 0) = false := by rw [beq_eq_false_iff_ne]; omega
  go_enter Tryz.func243, Tryz.ntmps243
  go_wp2_with (go_at_call 230; refine (innermost_ok p g m c hm _ h).mono ?_; rintro e w' ⟨rfl, q, rfl⟩)
  go_ret
  exact ⟨rfl, q, rfl⟩
theorem level_ok (p g m n cs : Nat) (a : Option Addr) (w : World) (h : w.cell? ⟨p, 3, none⟩ = some (.slice a n cs)) (hk : w.cell? ⟨g, m + 1, none⟩ = some (.int .i64 n)) :
    Calls Tryz.prog 244 #[.pointer (some ⟨p, 0, none⟩), .pointer (some ⟨g, m, none⟩)] w fun e w' => e = .returned (.tuple #[]) ∧ ∃ q, w' = w.drewN q := by
  go_enter Tryz.func244, Tryz.ntmps244
  go_quiet ((go_at_call 231; exact Calls.quiet_of_same ((require_ok _ _ _).mono fun _ _ ⟨a, b⟩ => ⟨a, b.symm⟩)))
  go_wp2
  go_end0
  exact ⟨rfl, _, rfl⟩
theorem level_no (p g m n cs : Nat) (a : Option Addr) (k i : Int) (hkn : (n : Int) ≠ k) (w : World) (h : w.cell? ⟨p, 3, none⟩ = some (.slice a n cs)) (hk : w.cell? ⟨g, m + 1, none⟩ = some (.int .i64 k)) (h2 : w.cell? ⟨p, 2, none⟩ = some (.int .i64 i)) :
    Calls Tryz.prog 244 #[.pointer (some ⟨p, 0, none⟩), .pointer (some ⟨g, m, none⟩)] w fun e w' => e = Off i 13 ∧ ∃ q, w' = w.drewN q := by
  have hb : ((n : Int) == k) = false := by rw [beq_eq_false_iff_ne]; exact hkn
  clear hkn
  go_enter Tryz.func244, Tryz.ntmps244
  go_region_dies
  all_goals
    refine Calls.mono (require_no _ _ i _ (by exact h2)) ?_
    rintro e w' ⟨rfl, rfl⟩
    exact ⟨rfl, rfl, 1, rfl⟩
end Go.Proofs.YtppgknjpbfopjaaGreatDoor
namespace Go.Proofs.YtppgknjpbfopjaaGreatDoor
open Go.ChangeShapes Go.WideShapes Go.ChangeAt Go.RowKit
set_option linter.unusedVariables false
/-- What a floor's call ends with. -/
abbrev Floor (p : Nat) (f : Nat) (w : World) : Prop := Calls Tryz.prog 243 #[.pointer (some ⟨p, 0, none⟩)] w fun e w' => e = .returned (.int .i64 f) ∧ ∃ q, w' = w.drewN q
set_option maxRecDepth 100000 in
theorem pop_some (p g r c f : Nat) (t u : ByteArray) (hc : r + t.size ≤ c) (hn : r + t.size ≤ 100) (hf : f ≤ r) (w : World) (h3 : w.cell? ⟨p, 3, none⟩ = some (.slice (some ⟨g, 0, none⟩) (r + t.size) c)) (f3 : w.frozen? ⟨p, 3, none⟩ = false)
    (hfl : Floor p f w) (hcv : ∀ q cc, (convert 46 9 (.slice (some ⟨g, r, none⟩) t.size cc)).run Tryz.prog (w.drewN q) = .ok (.string u) (w.drewN q))
    (hcz : r = c → ∀ q cc, (convert 46 9 (.slice (some ⟨g, 0, none⟩) t.size cc)).run Tryz.prog (w.drewN q) = .ok (.string u) (w.drewN q)) (hut : (u.toList == t.toList) = true) :
    Calls Tryz.prog 238 #[.pointer (some ⟨p, 0, none⟩), .string t] w fun e w' => e = .returned (.tuple #[]) ∧ ∃ q, w' = (w.drewN q).setCell ⟨p, 3, none⟩ (.slice (some ⟨g, 0, none⟩) r c) := by
  have HFL := Lib.hid hfl
  clear hfl
  by_cases hr : r = c
  · have hz := hcz hr
    have ht : t.size = 0 := by omega
    rw [ht] at hz h3
    rw [ht, Nat.add_zero] at hc
    rw [Nat.add_zero] at h3
    have hs : ((r : Int) - (t.size : Int)) = r := by omega
    have hn2 : r ≤ 100 := by omega
    subst hr
    clear hcz hcv hn hc
    go_enter Tryz.func238, Tryz.ntmps238
    go_wp2_with fail
    refine Calls.mono HFL.out ?_
    rintro e w' ⟨rfl, q, rfl⟩
    go_wp2_with (go_at_call 231; (with_reducible refine (require_ok _ _ _).mono ?_); rintro e w' ⟨rfl, rfl⟩)
    all_goals
      go_end0
      exact ⟨rfl, _, rfl⟩
  · clear hcz
    go_enter Tryz.func238, Tryz.ntmps238
    go_wp2_with fail
    refine Calls.mono HFL.out ?_
    rintro e w' ⟨rfl, q, rfl⟩
    go_wp2_with (go_at_call 231; (with_reducible refine (require_ok _ _ _).mono ?_); rintro e w' ⟨rfl, rfl⟩)
    all_goals
      go_end0
      exact ⟨rfl, _, rfl⟩
/-- The top is of other types. -/
theorem pop_type (p g r c f : Nat) (i : Int) (t u : ByteArray) (hc : r + t.size ≤ c) (hn : r + t.size ≤ 100) (hz : 0 < t.size) (hf : f ≤ r) (w : World) (h3 : w.cell? ⟨p, 3, none⟩ = some (.slice (some ⟨g, 0, none⟩) (r + t.size) c)) (h2 : ∀ q, (w.drewN q).cell? ⟨p, 2, none⟩ = some (.int .i64 i))
    (hfl : Floor p f w) (hcv : ∀ q cc, (convert 46 9 (.slice (some ⟨g, r, none⟩) t.size cc)).run Tryz.prog (w.drewN q) = .ok (.string u) (w.drewN q)) (hut : (u.toList == t.toList) = false) :
    Calls Tryz.prog 238 #[.pointer (some ⟨p, 0, none⟩), .string t] w fun e w' => e = Off i 12 ∧ ∃ q, w' = w.drewN q := by
  have HFL := Lib.hid hfl
  have H2 := Lib.hid h2
  have hr : ¬ c = r := by omega
  have hr2 : ¬ r = c := by omega
  clear hfl h2
  go_enter Tryz.func238, Tryz.ntmps238
  go_wp2_with fail
  refine Calls.mono HFL.out ?_
  rintro e w' ⟨rfl, q, rfl⟩
  go_wp2_with (go_at_call 231; (with_reducible refine (require_ok _ _ _).mono ?_); rintro e w' ⟨rfl, rfl⟩)
  refine Calls.mono (require_no _ _ i _ (H2.out _)) ?_
  rintro e w' ⟨rfl, rfl⟩
  exact ⟨rfl, rfl, _, rfl⟩
/-- Too few elements. -/
theorem pop_short (p n c f : Nat) (a : Option Addr) (i : Int) (t : ByteArray) (hn : n ≤ 100) (ht : t.size ≤ 100) (hf : n < f + t.size) (w : World) (h3 : w.cell? ⟨p, 3, none⟩ = some (.slice a n c)) (h2 : ∀ q, (w.drewN q).cell? ⟨p, 2, none⟩ = some (.int .i64 i))
    (hfl : Floor p f w) : Calls Tryz.prog 238 #[.pointer (some ⟨p, 0, none⟩), .string t] w fun e w' => e = Off i 13 ∧ ∃ q, w' = w.drewN q := by
  have HFL := Lib.hid hfl
  have H2 := Lib.hid h2
  have hd : decide ((f : Int) ≤ (n : Int) - t.size) = false := decide_eq_false (by omega)
  have hd2 : ¬ ((f : Int) ≤ (n : Int) - t.size) := by omega
  clear hfl h2
  go_enter Tryz.func238, Tryz.ntmps238
  go_wp2_with fail
  refine Calls.mono HFL.out ?_
  rintro e w' ⟨rfl, q, rfl⟩
  go_wp2_with fail
  refine Calls.mono (require_no _ _ i _ (H2.out _)) ?_
  rintro e w' ⟨rfl, rfl⟩
  exact ⟨rfl, rfl, _, rfl⟩
/-- Nothing of nothing. -/
theorem pop_nil (p : Nat) (t : ByteArray) (ht : t.size = 0) (w : World) (h3 : w.cell? ⟨p, 3, none⟩ = some (.slice none 0 0)) (f3 : w.frozen? ⟨p, 3, none⟩ = false)
    (hfl : Floor p 0 w) (hcv : ∀ q, (convert 46 9 (.slice none 0 0)).run Tryz.prog (w.drewN q) = .ok (.string ⟨#[]⟩) (w.drewN q)) (hut : t.toList.isEmpty = true) :
    Calls Tryz.prog 238 #[.pointer (some ⟨p, 0, none⟩), .string t] w fun e w' => e = .returned (.tuple #[]) ∧ ∃ q, w' = (w.drewN q).setCell ⟨p, 3, none⟩ (.slice none 0 0) := by
  have HFL := Lib.hid hfl
  clear hfl
  go_enter Tryz.func238, Tryz.ntmps238
  go_wp2_with fail
  refine Calls.mono HFL.out ?_
  rintro e w' ⟨rfl, q, rfl⟩
  go_wp2_with (go_at_call 231; (with_reducible refine (require_ok _ _ _).mono ?_); rintro e w' ⟨rfl, rfl⟩)
  go_end0
  exact ⟨rfl, _, rfl⟩
/-- What push leaves: the stack and the text behind it, in the walk's block. -/
def Pushed (B p n : Nat) (c : Nat) (a : Option Addr) (xs : List Value) (t : ByteArray) (w w' : World) : Prop :=
  ∃ a2 c2 w1, w1.ownsRow B 5 1 (.slice a2 (n + t.size) c2) (n + t.size) (xs ++ Lib.strCells t) ∧ w.grownBy w1 (Value.ownBlock (.slice a n c)) ∧ w' = w1.setCell ⟨p, 3, none⟩ (.slice a2 (n + t.size) c2)
set_option maxRecDepth 100000 in
theorem push_ok (B p n c : Nat) (a : Option Addr) (xs : List Value) (t : ByteArray) (ht : n + t.size ≤ 8) (w : World) (hB : B ≤ w.heap.size) (hp : p < w.heap.size) (h3 : w.cell? ⟨p, 3, none⟩ = some (.slice a n c)) (f3 : w.frozen? ⟨p, 3, none⟩ = false)
    (ho : w.ownsRow B 5 1 (.slice a n c) n xs) (hne : some p ≠ Value.ownBlock (.slice a n c)) :
    Calls Tryz.prog 239 #[.pointer (some ⟨p, 0, none⟩), .string t] w fun e w' => e = .returned (.tuple #[]) ∧ Pushed B p n c a xs t w w' := by
  obtain ⟨i0, hi, hz0, hz1, hz2⟩ := info_parts (show (Tryz.prog.info? 5).map (fun i => (i.zero, i.size, i.bytes)) = some (some (.int .u8 0), 1, 1) by kernel_rfl)
  have HI := Lib.hid (And.intro hi (And.intro hz0 (And.intro hz1 hz2)))
  have Ho := Lib.hid ho
  have HN := Lib.hid hne
  have HF := Lib.hid f3
  have hd : decide ((n : Int) + t.size ≤ 8) = true := decide_eq_true (by omega)
  clear hi hz0 hz1 hz2 ho hne
  go_enter Tryz.func239, Tryz.ntmps239
  go_wp2_with (at_builtin; go_must (refine Lib.wpList_append_own_string _ rfl (.tmp 8) (.tmp 9) _ _ rfl B 5 i0 Tryz.underlying46 Tryz.underlying9 HI.out.1 HI.out.2.1 HI.out.2.2.1 HI.out.2.2.2 (.slice a n c) n xs rfl Ho.out t rfl (by unfold maxLen; omega) (by omega) hB ?_); intro v1 w1 hown1 hgrow1 _; obtain ⟨a2, c2, rfl⟩ := wk_slice hown1; have Ho1 := Lib.hid hown1; have Hg1 := Lib.hid hgrow1; have k3 := (World.cell?_of_block (a := ⟨p, 3, none⟩) (hgrow1.block p hp HN.out)).trans h3; have k4 := (World.frozen?_of_block (a := ⟨p, 3, none⟩) (hgrow1.block p hp HN.out)).trans HF.out; clear hown1 hgrow1)
  go_wp2_with fail
  refine (require_ok _ _ _).mono ?_
  rintro e w' ⟨rfl, rfl⟩
  go_wp2_with fail
  go_end0
  exact ⟨rfl, a2, c2, w1, Ho1.out, Hg1.out, rfl⟩
set_option maxRecDepth 100000 in
theorem push_no (B p n c : Nat) (a : Option Addr) (xs : List Value) (t : ByteArray) (i : Int) (ht : 8 < n + t.size) (hn : n ≤ 100) (hm : t.size ≤ 100) (w : World) (hB : B ≤ w.heap.size) (hp : p < w.heap.size) (h3 : w.cell? ⟨p, 3, none⟩ = some (.slice a n c)) (f3 : w.frozen? ⟨p, 3, none⟩ = false)
    (ho : w.ownsRow B 5 1 (.slice a n c) n xs) (hne : some p ≠ Value.ownBlock (.slice a n c)) (hq : B ≤ p) (h2 : w.cell? ⟨p, 2, none⟩ = some (.int .i64 i)) :
    Calls Tryz.prog 239 #[.pointer (some ⟨p, 0, none⟩), .string t] w fun e w' => e = Off i 7 ∧ Below B w w' := by
  obtain ⟨i0, hi, hz0, hz1, hz2⟩ := info_parts (show (Tryz.prog.info? 5).map (fun i => (i.zero, i.size, i.bytes)) = some (some (.int .u8 0), 1, 1) by kernel_rfl)
  have HI := Lib.hid (And.intro hi (And.intro hz0 (And.intro hz1 hz2)))
  have Ho := Lib.hid ho
  have HN := Lib.hid hne
  have HF := Lib.hid f3
  have H2 := Lib.hid h2
  have HQ := Lib.hid hq
  clear h2 hq
  have hd : decide ((n : Int) + t.size ≤ 8) = false := decide_eq_false (by omega)
  clear hi hz0 hz1 hz2 ho hne
  go_enter Tryz.func239, Tryz.ntmps239
  go_wp2_with (at_builtin; go_must (refine Lib.wpList_append_own_string _ rfl (.tmp 8) (.tmp 9) _ _ rfl B 5 i0 Tryz.underlying46 Tryz.underlying9 HI.out.1 HI.out.2.1 HI.out.2.2.1 HI.out.2.2.2 (.slice a n c) n xs rfl Ho.out t rfl (by unfold maxLen; omega) (by omega) hB ?_); intro v1 w1 hown1 hgrow1 _; obtain ⟨a2, c2, rfl⟩ := wk_slice hown1; have Ho1 := Lib.hid hown1; have Hg1 := Lib.hid hgrow1; have k3 := (World.cell?_of_block (a := ⟨p, 3, none⟩) (hgrow1.block p hp HN.out)).trans h3; have k4 := (World.frozen?_of_block (a := ⟨p, 3, none⟩) (hgrow1.block p hp HN.out)).trans HF.out; clear hown1 hgrow1)
  go_wp2_with fail
  refine Calls.mono (require_no _ _ i _ (by have k2 := (World.cell?_of_block (a := ⟨p, 2, none⟩) (Hg1.out.block p hp HN.out)).trans H2.out; simpa [go_sem] using k2)) ?_
  rintro e w' ⟨rfl, rfl⟩
  exact ⟨rfl, rfl, ((Below.refl B w).grown Hg1.out hB (fun k hk => (Ho.out.lt k hk).1)).setCell (p := ⟨p, 3, none⟩) HQ.out _⟩
end Go.Proofs.YtppgknjpbfopjaaGreatDoor
namespace Go.Proofs.YtppgknjpbfopjaaGreatDoor
open Go.ChangeShapes Go.WideShapes Go.ChangeAt Go.RowKit
set_option linter.unusedVariables false
theorem quiet_add_left {P : Program} {f : FuncId} {args : Array Value} {w : World} {a n : Nat} {v : Value}
    (h : Calls P f args (w.drewN (a + n)) fun e w' => e = .returned v ∧ w.drewN (a + n) = w') :
    Calls P f args (w.drewN (a + n)) fun e w'' => e = .returned v ∧ ∃ m, w'' = w.drewN (a + m) :=
  h.mono fun _ _ ⟨he, hm⟩ => ⟨he, n, hm.symm⟩
theorem quiet_left {P : Program} {f : FuncId} {args : Array Value} {w : World} {n : Nat} {v : Value}
    (h : Calls P f args (w.drewN n) fun e w' => e = .returned v ∧ w.drewN n = w') : Calls P f args (w.drewN n) fun e w'' => e = .returned v ∧ ∃ m, w'' = w.drewN m :=
  h.mono fun _ _ ⟨he, hm⟩ => ⟨he, n, hm.symm⟩
theorem find_plain (p : Nat) (o y : Int) (w : World) (h19 : (o == 19) = false) (h20 : (o == 20) = false) (h26 : (o == 26) = false) :
    Calls Tryz.prog 236 #[.pointer (some ⟨p, 0, none⟩), .agg #[.int .i64 o, .int .i64 y]] w fun e w' => e = .returned (.tuple #[]) ∧ Below w.heap.size w w' := by
  have hn : namesB o = false := by unfold namesB; rw [h19, h20]; rfl
  have HN := Lib.hid hn
  have h26' : (o != 26) = true := by simp [bne, h26]
  clear hn
  go_enter Tryz.func236, Tryz.ntmps236
  go_wp2_with fail
  go_quiet ((first | (go_at_call 241; exact quiet_left (namesBlock_is HN.out _)) | (go_at_call 231; exact quiet_left (require_ok _ _ _))))
  go_wp2_with fail
  go_quiet ((go_at_call 231; exact quiet_add_left (require_ok _ _ _)))
  go_wp2
  go_end0
  exact ⟨rfl, bel_dn (bel_dn ((Below.refl _ _).alloc (Nat.le_refl _) _) _) _⟩
theorem find_block_ok (p n c : Nat) (k : Option Addr) (o y : Int) (ho : o = 19 ∨ o = 20) (hy : y < n) (w : World) (hp : p < w.heap.size) (h0 : w.cell? ⟨p, 0, none⟩ = some (.slice k n c)) :
    Calls Tryz.prog 236 #[.pointer (some ⟨p, 0, none⟩), .agg #[.int .i64 o, .int .i64 y]] w fun e w' => e = .returned (.tuple #[]) ∧ Below w.heap.size w w' := by
  have hd : decide (y < (n : Int)) = true := decide_eq_true (by omega)
  rcases ho with rfl | rfl
  all_goals
    go_enter Tryz.func236, Tryz.ntmps236
    go_wp2_with fail
    go_quiet ((first | (go_at_call 241; exact quiet_left (namesBlock_is (b := true) rfl _)) | (go_at_call 231; exact quiet_left (require_ok _ _ _))))
    go_wp2_with fail
    go_quiet ((go_at_call 231; exact quiet_add_left (require_ok _ _ _)))
    go_wp2
    go_end0
    exact ⟨rfl, bel_dn (bel_dn ((Below.refl _ _).alloc (Nat.le_refl _) _) _) _⟩
set_option maxHeartbeats 1000000 in
theorem find_call_ok (p : Nat) (y r : Int) (hy : y < r) (w : World) (hp : p < w.heap.size) (h1 : w.cell? ⟨p, 1, none⟩ = some (.int .i64 r)) :
    Calls Tryz.prog 236 #[.pointer (some ⟨p, 0, none⟩), .agg #[.int .i64 26, .int .i64 y]] w fun e w' => e = .returned (.tuple #[]) ∧ Below w.heap.size w w' := by
  have hd : decide (y < r) = true := decide_eq_true hy
  clear hy
  go_enter Tryz.func236, Tryz.ntmps236
  go_wp2_with fail
  go_quiet ((first | (go_at_call 241; exact quiet_left (namesBlock_is (b := false) rfl _)) | (go_at_call 231; exact quiet_left (require_ok _ _ _))))
  go_wp2_with fail
  go_quiet ((go_at_call 231; exact quiet_add_left (require_ok _ _ _)))
  go_wp2
  go_end0
  exact ⟨rfl, bel_dn (bel_dn ((Below.refl _ _).alloc (Nat.le_refl _) _) _) _⟩
set_option maxHeartbeats 1000000 in
theorem find_call_no (p : Nat) (y r i : Int) (hy : r ≤ y) (w : World) (hp : p < w.heap.size) (h1 : w.cell? ⟨p, 1, none⟩ = some (.int .i64 r)) (h2 : w.cell? ⟨p, 2, none⟩ = some (.int .i64 i)) :
    Calls Tryz.prog 236 #[.pointer (some ⟨p, 0, none⟩), .agg #[.int .i64 26, .int .i64 y]] w fun e w' => e = Off i 15 ∧ Below w.heap.size w w' := by
  have hd : decide (y < r) = false := decide_eq_false (by omega)
  clear hy
  go_enter Tryz.func236, Tryz.ntmps236
  go_wp2_with fail
  go_quiet ((first | (go_at_call 241; exact quiet_left (namesBlock_is (b := false) rfl _)) | (go_at_call 231; exact quiet_left (require_ok _ _ _))))
  go_wp2_with fail
  go_region_dies
  all_goals
    refine Calls.mono (require_no _ _ i _ (by exact (((Below.refl w.heap.size w).alloc (Nat.le_refl _) _).cell (p := ⟨p, 2, none⟩) hp).trans h2)) ?_
    rintro e w' ⟨rfl, rfl⟩
    exact ⟨rfl, rfl, bel_dn ((Below.refl _ _).alloc (Nat.le_refl _) _) _⟩
set_option maxRecDepth 100000 in
set_option maxHeartbeats 1000000 in
theorem find_block_no1 (p n c : Nat) (k : Option Addr) (o y i : Int) (hn : namesB o = true) (hy : (n : Int) ≤ y) (w : World) (hp : p < w.heap.size) (h0 : w.cell? ⟨p, 0, none⟩ = some (.slice k n c)) (h2 : w.cell? ⟨p, 2, none⟩ = some (.int .i64 i)) :
    Calls Tryz.prog 236 #[.pointer (some ⟨p, 0, none⟩), .agg #[.int .i64 o, .int .i64 y]] w fun e w' => e = Off i 5 ∧ Below w.heap.size w w' := by
  have hd : decide (y < (n : Int)) = false := decide_eq_false (by omega)
  have HN := Lib.hid hn
  have HSW : Hid (∃ q, (w.alloc (.cells #[.int .i64 o, .int .i64 y] 170)).drew = (w.alloc (.cells #[.int .i64 o, .int .i64 y] 170)).drewN q) := Lib.hid ⟨1, rfl⟩
  have H2 := Lib.hid ((((Below.refl w.heap.size w).alloc (Nat.le_refl _) (.cells #[.int .i64 o, .int .i64 y] 170)).cell (p := ⟨p, 2, none⟩) hp).trans h2)
  clear hn hy h2
  go_enter Tryz.func236, Tryz.ntmps236
  go_wp2_with fail
  refine wp_region_hl 15 (fun X => ∃ q, X = (w.alloc (.cells #[.int .i64 o, .int .i64 y] 170)).drewN q) (by kernel_rfl) rfl rfl (by kernel_rfl) ?_
  refine hl_take (v := ?v0) 0 rfl (by kernel_rfl) (fun _ _ _ h => h) (Or.inl ⟨by rfl, ?hy0⟩) HSW.out ?rest0
  case hy0 =>
    rintro X ⟨q, rfl⟩
    go_simp <;> with_reducible rfl
  try simp only [Act.put, List.setIfInBounds_toArray, List.set_cons_zero, List.set_cons_succ]
  refine hl_take (v := ?v1) 1 rfl (by kernel_rfl) (fun _ _ _ h => h) (Or.inl ⟨by rfl, ?hy1⟩) HSW.out ?rest1
  case hy1 =>
    rintro X ⟨q, rfl⟩
    go_simp <;> with_reducible rfl
  try simp only [Act.put, List.setIfInBounds_toArray, List.set_cons_zero, List.set_cons_succ]
  refine hl_take (v := ?v2) 2 rfl (by kernel_rfl) (fun _ _ _ h => h) (Or.inl ⟨by rfl, ?hy2⟩) HSW.out ?rest2
  case hy2 =>
    rintro X ⟨q, rfl⟩
    go_simp <;> with_reducible rfl
  try simp only [Act.put, List.setIfInBounds_toArray, List.set_cons_zero, List.set_cons_succ]
  refine hl_one 3 rfl (by kernel_rfl) (fun K hK => ?_)
  go_simp
  refine Calls.mono (namesBlock_is HN.out _) ?_
  rintro e w' ⟨rfl, rfl⟩
  refine hK.out _ _ HSW.out ?_
  clear hK
  try simp only [Act.put, List.setIfInBounds_toArray, List.set_cons_zero, List.set_cons_succ]
  refine hl_take (v := ?v4) 4 rfl (by kernel_rfl) (fun _ _ _ h => h) (Or.inl ⟨by rfl, ?hy4⟩) HSW.out ?rest4
  case hy4 =>
    rintro X ⟨q, rfl⟩
    go_simp <;> with_reducible rfl
  try simp only [Act.put, List.setIfInBounds_toArray, List.set_cons_zero, List.set_cons_succ]
  refine hl_take (v := ?v5) 5 rfl (by kernel_rfl) (fun _ _ _ h => h) (Or.inl ⟨by rfl, ?hy5⟩) HSW.out ?rest5
  case hy5 =>
    rintro X ⟨q, rfl⟩
    go_simp <;> with_reducible rfl
  try simp only [Act.put, List.setIfInBounds_toArray, List.set_cons_zero, List.set_cons_succ]
  refine hl_take (v := ?v6) 6 rfl (by kernel_rfl) (fun _ _ _ h => h) (Or.inl ⟨by rfl, ?hy6⟩) HSW.out ?rest6
  case hy6 =>
    rintro X ⟨q, rfl⟩
    go_simp <;> with_reducible rfl
  try simp only [Act.put, List.setIfInBounds_toArray, List.set_cons_zero, List.set_cons_succ]
  refine hl_take (v := ?v7) 7 rfl (by kernel_rfl) (fun _ _ _ h => h) (Or.inl ⟨by rfl, ?hy7⟩) HSW.out ?rest7
  case hy7 =>
    rintro X ⟨q, rfl⟩
    go_simp <;> with_reducible rfl
  try simp only [Act.put, List.setIfInBounds_toArray, List.set_cons_zero, List.set_cons_succ]
  refine hl_take (v := ?v8) 8 rfl (by kernel_rfl) (fun _ _ _ h => h) (Or.inl ⟨by rfl, ?hy8⟩) HSW.out ?rest8
  case hy8 =>
    rintro X ⟨q, rfl⟩
    go_simp <;> with_reducible rfl
  try simp only [Act.put, List.setIfInBounds_toArray, List.set_cons_zero, List.set_cons_succ]
  refine hl_take (v := ?v9) 9 rfl (by kernel_rfl) (fun _ _ _ h => h) (Or.inl ⟨by rfl, ?hy9⟩) HSW.out ?rest9
  case hy9 =>
    rintro X ⟨q, rfl⟩
    go_simp <;> with_reducible rfl
  try simp only [Act.put, List.setIfInBounds_toArray, List.set_cons_zero, List.set_cons_succ]
  refine hl_take (v := ?v10) 10 rfl (by kernel_rfl) (fun _ _ _ h => h) (Or.inl ⟨by rfl, ?hy10⟩) HSW.out ?rest10
  case hy10 =>
    rintro X ⟨q, rfl⟩
    go_simp <;> with_reducible rfl
  try simp only [Act.put, List.setIfInBounds_toArray, List.set_cons_zero, List.set_cons_succ]
  refine hl_take (v := ?v11) 11 rfl (by kernel_rfl) (fun _ _ _ h => h) (Or.inl ⟨by rfl, ?hy11⟩) HSW.out ?rest11
  case hy11 =>
    rintro X ⟨q, rfl⟩
    go_simp <;> with_reducible rfl
  try simp only [Act.put, List.setIfInBounds_toArray, List.set_cons_zero, List.set_cons_succ]
  refine hl_take (v := ?v12) 12 rfl (by kernel_rfl) (fun _ _ _ h => h) (Or.inl ⟨by rfl, ?hy12⟩) HSW.out ?rest12
  case hy12 =>
    rintro X ⟨q, rfl⟩
    go_simp <;> with_reducible rfl
  try simp only [Act.put, List.setIfInBounds_toArray, List.set_cons_zero, List.set_cons_succ]
  refine hl_take (v := ?v13) 13 rfl (by kernel_rfl) (fun _ _ _ h => h) (Or.inl ⟨by rfl, ?hy13⟩) HSW.out ?rest13
  case hy13 =>
    rintro X ⟨q, rfl⟩
    go_simp <;> with_reducible rfl
  try simp only [Act.put, List.setIfInBounds_toArray, List.set_cons_zero, List.set_cons_succ]
  refine hl_take (v := ?v14) 14 rfl (by kernel_rfl) (fun _ _ _ h => h) (Or.inl ⟨by rfl, ?hy14⟩) HSW.out ?rest14
  case hy14 =>
    rintro X ⟨q, rfl⟩
    go_simp <;> with_reducible rfl
  try simp only [Act.put, List.setIfInBounds_toArray, List.set_cons_zero, List.set_cons_succ]
  refine hl_done (by kernel_rfl) ?_
  go_simp
  refine Calls.mono (require_no _ _ i _ (by exact H2.out)) ?_
  rintro e w' ⟨rfl, rfl⟩
  exact ⟨rfl, rfl, bel_dn ((Below.refl _ _).alloc (Nat.le_refl _) _) 1⟩
theorem find_block_no (p n c : Nat) (k : Option Addr) (o y i : Int) (ho : o = 19 ∨ o = 20) (hy : (n : Int) ≤ y) (w : World) (hp : p < w.heap.size) (h0 : w.cell? ⟨p, 0, none⟩ = some (.slice k n c)) (h2 : w.cell? ⟨p, 2, none⟩ = some (.int .i64 i)) :
    Calls Tryz.prog 236 #[.pointer (some ⟨p, 0, none⟩), .agg #[.int .i64 o, .int .i64 y]] w fun e w' => e = Off i 5 ∧ Below w.heap.size w w' :=
  find_block_no1 p n c k o y i (by rcases ho with rfl | rfl <;> rfl) hy w hp h0 h2
end Go.Proofs.YtppgknjpbfopjaaGreatDoor
namespace Go.Proofs.YtppgknjpbfopjaaGreatDoor
open Go.ChangeShapes Go.WideShapes Go.ChangeAt Go.RowKit
set_option linter.unusedVariables false
/-- What a structure's opening leaves. -/
def Opened (B p n' c' : Nat) (a' : Option Addr) (xs : List Value) (z : List Value) (w w' : World) : Prop :=
  ∃ a2 c2 w1 O, w1.ownsRow B 262 3 (.slice a2 (n' + 1) c2) (n' + 1) (xs ++ z) ∧ (w.alloc O).grownBy w1 (Value.ownBlock (.slice a' n' c')) ∧ w' = w1.setCell ⟨p, 4, none⟩ (.slice a2 (n' + 1) c2)
theorem nest_plain (p : Nat) (o : Int) (w : World) (h1 : (o == 21) = false) (h2 : (o == 24) = false) (h3 : (o == 22) = false) (h4 : (o == 23) = false) :
    Calls Tryz.prog 240 #[.pointer (some ⟨p, 0, none⟩), .int .i64 o] w fun e w' => e = .returned (.tuple #[]) ∧ w = w' := by
  go_enter Tryz.func240, Tryz.ntmps240
  go_wp2
  go_end0
  exact ⟨rfl, rfl⟩
theorem nest_deep (p c' : Nat) (a' : Option Addr) (o i : Int) (ho : o = 21 ∨ o = 24) (w : World) (h2 : w.cell? ⟨p, 2, none⟩ = some (.int .i64 i)) (h4 : w.cell? ⟨p, 4, none⟩ = some (.slice a' 4 c')) :
    Calls Tryz.prog 240 #[.pointer (some ⟨p, 0, none⟩), .int .i64 o] w fun e w' => e = Off i 17 ∧ w = w' := by
  rcases ho with rfl | rfl
  all_goals
    go_enter Tryz.func240, Tryz.ntmps240
    go_wp2_with fail
    refine Calls.mono (require_no _ _ i _ h2) ?_
    rintro e w' ⟨rfl, rfl⟩
    exact ⟨rfl, rfl, rfl⟩
theorem three_cells (w : World) (a b c : Value) (t : TypeId) : ∀ j u, [a, b, c][j]? = some u → (w.alloc (.cells #[a, b, c] t)).cell? ((⟨w.heap.size, 0, none⟩ : Addr).add j) = some u := by
  intro j u hj
  match j, hj with
  | 0, hj => simp at hj; subst hj; simp [Addr.add]
  | 1, hj => simp at hj; subst hj; simp [Addr.add]
  | 2, hj => simp at hj; subst hj; simp [Addr.add]
  | j + 3, hj => simp at hj
set_option maxHeartbeats 4000000 in
theorem nest_open (B p n c n' c' : Nat) (a a' : Option Addr) (xs : List Value) (i o : Int) (ho : o = 21 ∨ o = 24) (hn' : n' + 1 ≤ 4) (hn : n ≤ 8) (w : World) (hB : B ≤ w.heap.size) (hp : p < w.heap.size)
    (h2 : w.cell? ⟨p, 2, none⟩ = some (.int .i64 i)) (h3 : w.cell? ⟨p, 3, none⟩ = some (.slice a n c)) (h4 : w.cell? ⟨p, 4, none⟩ = some (.slice a' n' c')) (f4 : w.frozen? ⟨p, 4, none⟩ = false)
    (hown : w.ownsRow B 262 3 (.slice a' n' c') n' xs) (hne : some p ≠ Value.ownBlock (.slice a' n' c')) :
    Calls Tryz.prog 240 #[.pointer (some ⟨p, 0, none⟩), .int .i64 o] w fun e w' => e = .returned (.tuple #[]) ∧ Opened B p n' c' a' xs [.int .i64 i, .int .i64 n, .bool (o == 21)] w w' := by
  obtain ⟨i0, hi, hz0, hz1, hz2⟩ := info_parts (show (Tryz.prog.info? 262).map (fun i => (i.zero, i.size, i.bytes)) = some (some (.agg #[.int .i64 0, .int .i64 0, .bool false]), 3, 24) by kernel_rfl)
  have HI := Lib.hid (And.intro hi (And.intro hz0 (And.intro hz1 hz2)))
  have Ho := Lib.hid hown
  have HN := Lib.hid hne
  have HF := Lib.hid f4
  have HB := Lib.hid hB
  have hk : ∀ O w1, (w.alloc O).grownBy w1 (Value.ownBlock (.slice a' n' c')) → w1.heap[p]? = w.heap[p]? := fun O w1 g =>
    (g.block p (by simp; omega) HN.out).trans (Below.heap_alloc w O p hp)
  have HK := Lib.hid hk
  have hd : decide ((n' : Int) < 4) = true := decide_eq_true (by omega)
  have HBB : Hid (∀ O, B ≤ (w.alloc O).heap.size) := Lib.hid (fun O => by simp; omega)
  have H1c : Hid (∀ q : Bool, ∀ u ∈ [Value.int .i64 i, .int .i64 (n : Int), .bool q], u.oneCell' = true) := Lib.hid (fun q => by simp [Value.oneCell'])
  have HM1 : Hid (n' + 1 ≤ maxLen) := Lib.hid (by unfold maxLen; omega)
  have HM2 : Hid ((n' + 1) * 24 ≤ 140737488355328) := Lib.hid (by omega)
  have H03 : Hid (0 < 3) := Lib.hid (by decide)
  clear hi hz0 hz1 hz2 hown hne hk f4 hB
  obtain ⟨H1, H2, H3, H4⟩ := HI.out
  rcases ho with rfl | rfl
  · go_enter Tryz.func240, Tryz.ntmps240
    go_wp2_with fail
    refine (require_ok _ _ _).mono ?_
    rintro e w' ⟨rfl, rfl⟩
    go_wp2_with fail
    go_region_law (refine step_append_own rfl (.tmp 21) (.tmp 34) _ rfl B 262 i0 _ 3 24 Tryz.underlying242 H1 H2 H3 H4 rfl H03.out (.slice a' n' c') n' xs rfl (Ho.out.alloc _) ⟨w.heap.size, 0, none⟩ 1 1 [.int .i64 i, .int .i64 n, .bool true] rfl rfl (three_cells _ (.int .i64 i) (.int .i64 n) (.bool true) _) (H1c.out true) HM1.out HM2.out (HBB.out (.cells #[.int .i64 i, .int .i64 n, .bool true] 262)) (fun v' w' g1 g2 _ => ?_); obtain ⟨a2, c2, rfl⟩ := wk_slice g1; have G1 := Lib.hid g1; have g2 : (w.alloc (.cells #[.int .i64 i, .int .i64 n, .bool true] 262)).grownBy w' (Value.ownBlock (.slice a' n' c')) := ⟨g2.os, g2.tape, g2.output, g2.size, g2.block⟩; have G2 := Lib.hid g2; have k4 := (World.frozen?_of_block (a := ⟨p, 4, none⟩) (HK.out _ _ g2)).trans HF.out; have k3 := (World.cell?_of_block (a := ⟨p, 4, none⟩) (HK.out _ _ g2)).trans h4; clear g1 g2)
    all_goals go_wp2
    all_goals go_end0
    all_goals exact ⟨rfl, a2, c2, _, _, G1.out, G2.out, rfl⟩
  · go_enter Tryz.func240, Tryz.ntmps240
    go_wp2_with fail
    refine (require_ok _ _ _).mono ?_
    rintro e w' ⟨rfl, rfl⟩
    go_wp2_with fail
    go_region_law (refine step_append_own rfl (.tmp 21) (.tmp 34) _ rfl B 262 i0 _ 3 24 Tryz.underlying242 H1 H2 H3 H4 rfl H03.out (.slice a' n' c') n' xs rfl (Ho.out.alloc _) ⟨w.heap.size, 0, none⟩ 1 1 [.int .i64 i, .int .i64 n, .bool false] rfl rfl (three_cells _ (.int .i64 i) (.int .i64 n) (.bool false) _) (H1c.out false) HM1.out HM2.out (HBB.out (.cells #[.int .i64 i, .int .i64 n, .bool false] 262)) (fun v' w' g1 g2 _ => ?_); obtain ⟨a2, c2, rfl⟩ := wk_slice g1; have G1 := Lib.hid g1; have g2 : (w.alloc (.cells #[.int .i64 i, .int .i64 n, .bool false] 262)).grownBy w' (Value.ownBlock (.slice a' n' c')) := ⟨g2.os, g2.tape, g2.output, g2.size, g2.block⟩; have G2 := Lib.hid g2; have k4 := (World.frozen?_of_block (a := ⟨p, 4, none⟩) (HK.out _ _ g2)).trans HF.out; have k3 := (World.cell?_of_block (a := ⟨p, 4, none⟩) (HK.out _ _ g2)).trans h4; clear g1 g2)
    all_goals go_wp2
    all_goals go_end0
    all_goals exact ⟨rfl, a2, c2, _, _, G1.out, G2.out, rfl⟩
end Go.Proofs.YtppgknjpbfopjaaGreatDoor
namespace Go.Proofs.YtppgknjpbfopjaaGreatDoor
open Go.ChangeShapes Go.WideShapes Go.ChangeAt Go.RowKit
set_option linter.unusedVariables false
theorem nest_none (p c' : Nat) (a' : Option Addr) (o i : Int) (ho : o = 22 ∨ o = 23) (w : World) (h2 : w.cell? ⟨p, 2, none⟩ = some (.int .i64 i)) (h4 : w.cell? ⟨p, 4, none⟩ = some (.slice a' 0 c')) :
    Calls Tryz.prog 240 #[.pointer (some ⟨p, 0, none⟩), .int .i64 o] w fun e w' => e = Off i 14 ∧ w = w' := by
  rcases ho with rfl | rfl
  all_goals
    go_enter Tryz.func240, Tryz.ntmps240
    go_wp2_with fail
    refine Calls.mono (innermost_no p c' a' i _ h4 h2) ?_
    rintro e w' ⟨rfl, rfl⟩
    exact ⟨rfl, rfl, rfl⟩
theorem else_not (p g m c : Nat) (i : Int) (hm : m + 1 ≤ 100) (w : World) (h2 : ∀ q, (w.drewN q).cell? ⟨p, 2, none⟩ = some (.int .i64 i)) (h4 : w.cell? ⟨p, 4, none⟩ = some (.slice (some ⟨g, 0, none⟩) (m + 1) c)) (hb : w.cell? ⟨g, m * 3 + 2, none⟩ = some (.bool false)) :
    Calls Tryz.prog 240 #[.pointer (some ⟨p, 0, none⟩), .int .i64 22] w fun e w' => e = Off i 14 ∧ ∃ q, w' = w.drewN q := by
  have H2 := Lib.hid h2
  clear h2
  go_enter Tryz.func240, Tryz.ntmps240
  go_wp2_with fail
  refine Calls.mono (innermost_ok p g m c hm _ h4) ?_
  rintro e w' ⟨rfl, q, rfl⟩
  go_wp2_with fail
  refine Calls.mono (require_no _ _ i _ (H2.out _)) ?_
  rintro e w' ⟨rfl, rfl⟩
  exact ⟨rfl, rfl, _, rfl⟩
theorem else_level (p g m c n cs : Nat) (a : Option Addr) (i k : Int) (hm : m + 1 ≤ 100) (hk : (n : Int) ≠ k) (w : World) (h2 : ∀ q, (w.drewN q).cell? ⟨p, 2, none⟩ = some (.int .i64 i)) (h3 : ∀ q, (w.drewN q).cell? ⟨p, 3, none⟩ = some (.slice a n cs))
    (h4 : w.cell? ⟨p, 4, none⟩ = some (.slice (some ⟨g, 0, none⟩) (m + 1) c)) (hb : w.cell? ⟨g, m * 3 + 2, none⟩ = some (.bool true)) (hh : ∀ q, (w.drewN q).cell? ⟨g, m * 3 + 1, none⟩ = some (.int .i64 k)) :
    Calls Tryz.prog 240 #[.pointer (some ⟨p, 0, none⟩), .int .i64 22] w fun e w' => e = Off i 13 ∧ ∃ q, w' = w.drewN q := by
  have HL := Lib.hid (fun q => level_no p g (m * 3) n cs a k i hk (w.drewN q) (h3 q) (hh q) (h2 q))
  clear h2 h3 hk hh
  go_enter Tryz.func240, Tryz.ntmps240
  go_wp2_with fail
  refine Calls.mono (innermost_ok p g m c hm _ h4) ?_
  rintro e w' ⟨rfl, q, rfl⟩
  go_wp2_with fail
  refine Calls.mono (require_ok _ _ _) ?_
  rintro e w' ⟨rfl, rfl⟩
  go_wp2_with fail
  refine Calls.mono (HL.out q) ?_
  rintro e w' ⟨rfl, q2, rfl⟩
  exact ⟨rfl, rfl, q + q2, by simp⟩
theorem else_ok (p g m c n cs : Nat) (a : Option Addr) (hm : m + 1 ≤ 100) (w : World) (h3 : ∀ q, (w.drewN q).cell? ⟨p, 3, none⟩ = some (.slice a n cs))
    (h4 : w.cell? ⟨p, 4, none⟩ = some (.slice (some ⟨g, 0, none⟩) (m + 1) c)) (hb : w.cell? ⟨g, m * 3 + 2, none⟩ = some (.bool true)) (fb : w.frozen? ⟨g, m * 3 + 2, none⟩ = false) (hh : ∀ q, (w.drewN q).cell? ⟨g, m * 3 + 1, none⟩ = some (.int .i64 n)) :
    Calls Tryz.prog 240 #[.pointer (some ⟨p, 0, none⟩), .int .i64 22] w fun e w' => e = .returned (.tuple #[]) ∧ ∃ q, w' = (w.drewN q).setCell ⟨g, m * 3 + 2, none⟩ (.bool false) := by
  have HL := Lib.hid (fun q => level_ok p g (m * 3) n cs a (w.drewN q) (h3 q) (hh q))
  clear h3 hh
  go_enter Tryz.func240, Tryz.ntmps240
  go_wp2_with fail
  refine Calls.mono (innermost_ok p g m c hm _ h4) ?_
  rintro e w' ⟨rfl, q, rfl⟩
  go_wp2_with fail
  refine Calls.mono (require_ok _ _ _) ?_
  rintro e w' ⟨rfl, rfl⟩
  go_wp2_with fail
  refine Calls.mono (HL.out q) ?_
  rintro e w' ⟨rfl, q2, rfl⟩
  go_wp2
  go_end0
  exact ⟨rfl, q + q2, by simp⟩
theorem end_level (p g m c n cs : Nat) (a : Option Addr) (i k : Int) (hm : m + 1 ≤ 100) (hk : (n : Int) ≠ k) (w : World) (h2 : ∀ q, (w.drewN q).cell? ⟨p, 2, none⟩ = some (.int .i64 i)) (h3 : ∀ q, (w.drewN q).cell? ⟨p, 3, none⟩ = some (.slice a n cs))
    (h4 : w.cell? ⟨p, 4, none⟩ = some (.slice (some ⟨g, 0, none⟩) (m + 1) c)) (hh : ∀ q, (w.drewN q).cell? ⟨g, m * 3 + 1, none⟩ = some (.int .i64 k)) :
    Calls Tryz.prog 240 #[.pointer (some ⟨p, 0, none⟩), .int .i64 23] w fun e w' => e = Off i 13 ∧ ∃ q, w' = w.drewN q := by
  have HL := Lib.hid (fun q => level_no p g (m * 3) n cs a k i hk (w.drewN q) (h3 q) (hh q) (h2 q))
  clear h2 h3 hk hh
  go_enter Tryz.func240, Tryz.ntmps240
  go_wp2_with fail
  refine Calls.mono (innermost_ok p g m c hm _ h4) ?_
  rintro e w' ⟨rfl, q, rfl⟩
  go_wp2_with fail
  refine Calls.mono (HL.out q) ?_
  rintro e w' ⟨rfl, q2, rfl⟩
  exact ⟨rfl, rfl, q + q2, by simp⟩
theorem end_ok (p g m c n cs : Nat) (a : Option Addr) (hm : m + 1 ≤ 100) (hmc : m + 1 ≤ c) (w : World) (h3 : ∀ q, (w.drewN q).cell? ⟨p, 3, none⟩ = some (.slice a n cs))
    (h4 : w.cell? ⟨p, 4, none⟩ = some (.slice (some ⟨g, 0, none⟩) (m + 1) c)) (f4 : w.frozen? ⟨p, 4, none⟩ = false) (hh : ∀ q, (w.drewN q).cell? ⟨g, m * 3 + 1, none⟩ = some (.int .i64 n)) :
    Calls Tryz.prog 240 #[.pointer (some ⟨p, 0, none⟩), .int .i64 23] w fun e w' => e = .returned (.tuple #[]) ∧ ∃ q, w' = (w.drewN q).setCell ⟨p, 4, none⟩ (.slice (some ⟨g, 0, none⟩) m c) := by
  have HL := Lib.hid (fun q => level_ok p g (m * 3) n cs a (w.drewN q) (h3 q) (hh q))
  clear h3 hh
  go_enter Tryz.func240, Tryz.ntmps240
  go_wp2_with fail
  refine Calls.mono (innermost_ok p g m c hm _ h4) ?_
  rintro e w' ⟨rfl, q, rfl⟩
  go_wp2_with fail
  refine Calls.mono (HL.out q) ?_
  rintro e w' ⟨rfl, q2, rfl⟩
  go_wp2
  go_region
  all_goals go_wp2
  all_goals go_end0
  all_goals exact ⟨rfl, q + q2 + 1, by simp⟩
end Go.Proofs.YtppgknjpbfopjaaGreatDoor
namespace Go.Proofs.YtppgknjpbfopjaaGreatDoor
open Go.ChangeShapes Go.WideShapes Go.ChangeAt Go.RowKit
set_option linter.unusedVariables false
theorem own_less {w : World} {B size g r k c : Nat} {e : TypeId} {xs ys : List Value} (h : w.ownsRow B e size (.slice (some ⟨g, 0, none⟩) (r + k) c) (r + k) (xs ++ ys)) (hx : xs.length = r * size) : w.ownsRow B e size (.slice (some ⟨g, 0, none⟩) r c) r xs := by
  obtain ⟨h1, h2⟩ := h
  refine ⟨hx, ?_⟩
  rcases h2 with ⟨h0, _⟩ | ⟨g', cap, cur, h0, hb, hg, hn, hm, hs, ht⟩
  · simp at h0
  · simp only [Value.slice.injEq, Option.some.injEq, Addr.mk.injEq, and_true, true_and] at h0
    obtain ⟨rfl, rfl⟩ := h0
    refine .inr ⟨g, c, cur, rfl, hb, hg, by omega, hm, hs, ?_⟩
    have h3 := congrArg (List.take (r * size)) ht
    rw [List.take_take, Nat.min_eq_left (Nat.mul_le_mul_right _ (by omega)), ← hx, List.take_left'] at h3
    · rw [← hx]; exact h3
    · rfl
theorem own_dn {w : World} {B size n : Nat} {e : TypeId} {v : Value} {xs : List Value} (h : w.ownsRow B e size v n xs) (q : Nat) : (w.drewN q).ownsRow B e size v n xs := h
/-- Whatever is no part of a walk stays as it is. -/
def Keeps (w w' : World) : Prop := ∀ (k : Nat) (cs : Array Value) (t : TypeId) (fz : Nat × Nat), w.heap[k]? = some (.cells cs t fz) → t ≠ 244 → t ≠ 5 → t ≠ 262 → w'.heap[k]? = some (.cells cs t fz)
theorem Keeps.refl (w : World) : Keeps w w := fun _ _ _ _ h _ _ _ => h
theorem Keeps.trans {a b c : World} (h : Keeps a b) (g : Keeps b c) : Keeps a c := fun k cs t fz e h1 h2 h3 => g k cs t fz (h k cs t fz e h1 h2 h3) h1 h2 h3
theorem Keeps.dn {a b : World} (h : Keeps a b) (q : Nat) : Keeps a (b.drewN q) := h
theorem Keeps.alloc {a b : World} (h : Keeps a b) (O : Obj) : Keeps a (b.alloc O) := fun k cs t fz e h1 h2 h3 => by
  have g := h k cs t fz e h1 h2 h3
  rw [Below.heap_alloc b O k (Array.getElem?_eq_some_iff.1 g).1]
  exact g
/-- A part of a walk. -/
def Part (t : TypeId) : Prop := t = 244 ∨ t = 5 ∨ t = 262
theorem Keeps.set {a b : World} (h : Keeps a b) {p i : Nat} {u : Value} {cs : Array Value} {t : TypeId} {fz : Nat × Nat} (hp : b.heap[p]? = some (.cells cs t fz)) (ht : Part t) : Keeps a (b.setCell ⟨p, i, none⟩ u) := fun k cs' t' fz' e h1 h2 h3 => by
  have g := h k cs' t' fz' e h1 h2 h3
  rw [heap_setCell_other _ _ _ _ (fun e' => ?_)]
  · exact g
  · simp only at e'
    subst e'
    rw [hp] at g
    simp only [Option.some.injEq, Obj.cells.injEq] at g
    obtain ⟨_, rfl, _⟩ := g
    rcases ht with r | r | r
    · exact h1 r
    · exact h2 r
    · exact h3 r
theorem Keeps.grown {a b c : World} {row : Option Nat} (h : Keeps a b) (hg : b.grownBy c row) (hr : ∀ g : Nat, row = some g → ∃ (cs : Array Value) (t : TypeId) (fz : Nat × Nat), b.heap[g]? = some (.cells cs t fz) ∧ Part t) : Keeps a c := fun k cs' t' fz' e h1 h2 h3 => by
  have g := h k cs' t' fz' e h1 h2 h3
  rw [hg.block k (Array.getElem?_eq_some_iff.1 g).1 (fun e' => ?_)]
  · exact g
  · obtain ⟨cs, t, fz, hb, ht⟩ := hr k e'.symm
    rw [hb] at g
    simp only [Option.some.injEq, Obj.cells.injEq] at g
    obtain ⟨_, rfl, _⟩ := g
    rcases ht with r | r | r
    · exact h1 r
    · exact h2 r
    · exact h3 r
theorem own_part {w : World} {B size n : Nat} {e : TypeId} {v : Value} {xs : List Value} (h : w.ownsRow B e size v n xs) (he : Part e) : ∀ g : Nat, v.ownBlock = some g → ∃ (cs : Array Value) (t : TypeId) (fz : Nat × Nat), w.heap[g]? = some (.cells cs t fz) ∧ Part t := fun g hg => by
  obtain ⟨c, f, hc⟩ := Lib.ownsRow_kind h g hg
  exact ⟨c, e, f, hc, he⟩
/-- What is below B, and what is no part of a walk. -/
def Fr (B : Nat) (w w' : World) : Prop := Below B w w' ∧ Keeps w w'
section
variable {B p : Nat} {K : Value} {r i : Int} {a a' : Option Addr} {n c n' c' : Nat} {stk : List UInt8} {opn : List SO} {w w' : World}
theorem WAt.bel (h : WAt B p K r i a n c a' n' c' stk opn w) (hb : Below w.heap.size w w') : WAt B p K r i a n c a' n' c' stk opn w' :=
  ⟨h.base, (hb.block p h.plt).trans h.blk, own_bl h.stack hb, own_bl h.opens hb⟩
theorem WAt.dn (h : WAt B p K r i a n c a' n' c' stk opn w) (q : Nat) : WAt B p K r i a n c a' n' c' stk opn (w.drewN q) := ⟨h.base, h.blk, h.stack, h.opens⟩
theorem WAt.nes (h : WAt B p K r i a n c a' n' c' stk opn w) : Value.ownBlock (.slice a n c) ≠ some p := own_ne h.stack h.blk (by decide)
theorem WAt.neo (h : WAt B p K r i a n c a' n' c' stk opn w) : Value.ownBlock (.slice a' n' c') ≠ some p := own_ne h.opens h.blk (by decide)
theorem WAt.low (h : WAt B p K r i a n c a' n' c' stk opn w) : B ≤ w.heap.size := Nat.le_of_lt (Nat.lt_of_le_of_lt h.base h.plt)
/-- The index moves on. -/
theorem WAt.next (h : WAt B p K r i a n c a' n' c' stk opn w) (j : Int) : WAt B p K r j a n c a' n' c' stk opn (w.setCell ⟨p, 2, none⟩ (.int .i64 j)) ∧ Fr B w (w.setCell ⟨p, 2, none⟩ (.int .i64 j)) :=
  ⟨⟨h.base, by simpa using wk_set h.blk 2 (.int .i64 j), ownsRow_setCell_other h.stack h.nes _, ownsRow_setCell_other h.opens h.neo _⟩, (Below.refl B w).setCell (p := ⟨p, 2, none⟩) h.base _, (Keeps.refl w).set h.blk (.inl rfl)⟩
/-- The stack gets shorter. -/
theorem WAt.popped {g k : Nat} {st tk : List UInt8} (h : WAt B p K r i (some ⟨g, 0, none⟩) (n + k) c a' n' c' (st ++ tk) opn w) (hst : st.length = n) (q : Nat) :
    WAt B p K r i (some ⟨g, 0, none⟩) n c a' n' c' st opn ((w.drewN q).setCell ⟨p, 3, none⟩ (.slice (some ⟨g, 0, none⟩) n c)) ∧ Fr B w ((w.drewN q).setCell ⟨p, 3, none⟩ (.slice (some ⟨g, 0, none⟩) n c)) := by
  have h' := h.dn q
  have hs : w.ownsRow B 5 1 (.slice (some ⟨g, 0, none⟩) (n + k) c) (n + k) (u8s st ++ u8s tk) := by
    have := h.stack
    rwa [show u8s (st ++ tk) = u8s st ++ u8s tk by simp [u8s]] at this
  refine ⟨⟨h.base, by simpa using wk_set h'.blk 3 (.slice (some ⟨g, 0, none⟩) n c), ownsRow_setCell_other (a := ⟨p, 3, none⟩) (own_dn (own_less hs (by rw [u8s_len]; omega)) q) (show Value.ownBlock (.slice (some ⟨g, 0, none⟩) n c) ≠ some p from h.nes) _, ownsRow_setCell_other h'.opens h.neo _⟩, ?_⟩
  exact ⟨(bel_dn (Below.refl B w) q).setCell (p := ⟨p, 3, none⟩) h.base _, ((Keeps.refl w).dn q).set h.blk (.inl rfl)⟩
/-- The stack, nil, stays as it is. -/
theorem WAt.popnil (h : WAt B p K r i none 0 0 a' n' c' stk opn w) (q : Nat) :
    WAt B p K r i none 0 0 a' n' c' stk opn ((w.drewN q).setCell ⟨p, 3, none⟩ (.slice none 0 0)) ∧ Fr B w ((w.drewN q).setCell ⟨p, 3, none⟩ (.slice none 0 0)) :=
  ⟨⟨h.base, by simpa using wk_set (h.dn q).blk 3 (.slice none 0 0), ownsRow_setCell_other (h.dn q).stack h.nes _, ownsRow_setCell_other (h.dn q).opens h.neo _⟩, (bel_dn (Below.refl B w) q).setCell (p := ⟨p, 3, none⟩) h.base _, ((Keeps.refl w).dn q).set h.blk (.inl rfl)⟩
theorem cells_bytes (t : ByteArray) : Lib.strCells t = u8s t.data.toList := rfl
theorem WAt.pushed {t : ByteArray} (h : WAt B p K r i a n c a' n' c' stk opn w) (g : Pushed B p n c a (u8s stk) t w w') :
    (∃ a2 c2, WAt B p K r i a2 (n + t.size) c2 a' n' c' (stk ++ t.data.toList) opn w') ∧ Fr B w w' := by
  obtain ⟨a2, c2, w1, ho, hg, rfl⟩ := g
  have hp : w1.heap[p]? = some (wkO K r i a n c a' n' c') := (hg.block p h.plt (fun e => h.nes e.symm)).trans h.blk
  have hop : w1.ownsRow B 262 3 (.slice a' n' c') n' (flat soC opn) := h.opens.kept hg (own_ne2 h.opens h.stack (by decide))
  refine ⟨⟨a2, c2, h.base, by simpa using wk_set hp 3 (.slice a2 (n + t.size) c2), ?_, ownsRow_setCell_other hop h.neo _⟩, ?_⟩
  · rw [cells_bytes, show u8s stk ++ u8s t.data.toList = u8s (stk ++ t.data.toList) by simp [u8s]] at ho
    exact ownsRow_setCell_other ho (own_ne ho hp (by decide)) _
  · exact ⟨((Below.refl B w).grown hg h.low (fun k hk => (h.stack.lt k hk).1)).setCell (p := ⟨p, 3, none⟩) h.base _, ((Keeps.refl w).grown hg (own_part h.stack (.inr (.inl rfl)))).set hp (.inl rfl)⟩
theorem WAt.opened {z : SO} (h : WAt B p K r i a n c a' n' c' stk opn w) (g : Opened B p n' c' a' (flat soC opn) (soC z) w w') :
    (∃ a2 c2, WAt B p K r i a n c a2 (n' + 1) c2 stk (opn ++ [z]) w') ∧ Fr B w w' := by
  obtain ⟨a2, c2, w1, O, ho, hg, rfl⟩ := g
  have hp : w1.heap[p]? = some (wkO K r i a n c a' n' c') := (hg.block p (by have := h.plt; simp; omega) (fun e => h.neo e.symm)).trans ((Below.heap_alloc w O p h.plt).trans h.blk)
  have hst : w1.ownsRow B 5 1 (.slice a n c) n (u8s stk) := (h.stack.alloc O).kept hg (own_ne2 h.stack h.opens (by decide))
  refine ⟨⟨a2, c2, h.base, by simpa using wk_set hp 4 (.slice a2 (n' + 1) c2), ownsRow_setCell_other hst h.nes _, ?_⟩, ?_⟩
  · rw [← flat_snoc] at ho
    exact ownsRow_setCell_other ho (own_ne ho hp (by decide)) _
  · exact ⟨(((Below.refl B w).alloc h.low O).grown hg (by have := h.low; simp; omega) (fun k hk => (h.opens.lt k hk).1)).setCell (p := ⟨p, 4, none⟩) h.base _, (((Keeps.refl w).alloc O).grown hg (own_part (h.opens.alloc O) (.inr (.inr rfl)))).set hp (.inl rfl)⟩
theorem WAt.closed {g m : Nat} {os : List SO} {z : SO} (h : WAt B p K r i a n c (some ⟨g, 0, none⟩) (m + 1) c' stk (os ++ [z]) w) (q : Nat) :
    WAt B p K r i a n c (some ⟨g, 0, none⟩) m c' stk os ((w.drewN q).setCell ⟨p, 4, none⟩ (.slice (some ⟨g, 0, none⟩) m c')) ∧ Fr B w ((w.drewN q).setCell ⟨p, 4, none⟩ (.slice (some ⟨g, 0, none⟩) m c')) := by
  have h' := h.dn q
  have hl := h.olen
  have ho : w.ownsRow B 262 3 (.slice (some ⟨g, 0, none⟩) (m + 1) c') (m + 1) (flat soC os ++ soC z) := by
    have := h.opens
    rwa [flat_snoc] at this
  refine ⟨⟨h.base, by simpa using wk_set h'.blk 4 (.slice (some ⟨g, 0, none⟩) m c'), ownsRow_setCell_other h'.stack h.nes _, ownsRow_setCell_other (a := ⟨p, 4, none⟩) (own_dn (own_less ho (by rw [flat_len soC_len]; simp at hl; omega)) q) (show Value.ownBlock (.slice (some ⟨g, 0, none⟩) m c') ≠ some p from h.neo) _⟩, ?_⟩
  exact ⟨(bel_dn (Below.refl B w) q).setCell (p := ⟨p, 4, none⟩) h.base _, ((Keeps.refl w).dn q).set h.blk (.inl rfl)⟩
theorem flat_last {os : List SO} {x : Int} {y : Int} {m : Nat} (hm : os.length = m) : (flat soC (os ++ [(x, y, true)])).set (m * 3 + 2) (.bool false) = flat soC (os ++ [(x, y, false)]) := by
  rw [flat_snoc, flat_snoc, List.set_append_right _ _ (by rw [flat_len soC_len]; omega), flat_len soC_len, hm, show m * 3 + 2 - m * 3 = 2 by omega]
  rfl
theorem WAt.elsed {g m : Nat} {os : List SO} {x y : Int} (h : WAt B p K r i a n c (some ⟨g, 0, none⟩) (m + 1) c' stk (os ++ [(x, y, true)]) w) (q : Nat) :
    WAt B p K r i a n c (some ⟨g, 0, none⟩) (m + 1) c' stk (os ++ [(x, y, false)]) ((w.drewN q).setCell ⟨g, m * 3 + 2, none⟩ (.bool false)) ∧ Fr B w ((w.drewN q).setCell ⟨g, m * 3 + 2, none⟩ (.bool false)) := by
  have h' := h.dn q
  have hl : os.length = m := by have := h.olen; simp at this; omega
  have hst := (h'.opens.stored (m * 3 + 2) (.bool false)).1
  rw [flat_last hl] at hst
  have hgp : g ≠ p := fun e => h.neo (by simp [Value.ownBlock, e])
  refine ⟨⟨h.base, ?_, ownsRow_setCell_other h'.stack ?_ _, hst⟩, ?_⟩
  · rw [heap_setCell_other _ _ _ _ (fun e => hgp e.symm)]
    exact h'.blk
  · have := own_ne2 h.stack h.opens (by decide)
    rcases this with e | e
    · rw [e]; simp
    · exact e
  · obtain ⟨cs, f, hc⟩ := Lib.ownsRow_kind h.opens g rfl
    exact ⟨(bel_dn (Below.refl B w) q).setCell (p := ⟨g, m * 3 + 2, none⟩) (h.opens.lt g rfl).1 _, ((Keeps.refl w).dn q).set hc (.inr (.inr rfl))⟩
end
end Go.Proofs.YtppgknjpbfopjaaGreatDoor
namespace Go.Proofs.YtppgknjpbfopjaaGreatDoor
open Go.ChangeShapes Go.WideShapes Go.ChangeAt Go.RowKit
set_option linter.unusedVariables false
/-- An open structure of the plain verifier as impl keeps it. -/
def so (o : VO) : SO := (o.pos, (o.stk.length : Int), o.op == 21)
/-- What lies below an open structure is still there. -/
structure VW.pre (w : VW) : Prop where
  pfx : ∀ o ∈ w.opn, o.stk <+: w.stk
  asc : w.opn.Pairwise (fun a b => a.stk.length ≤ b.stk.length)
  s8 : w.stk.length ≤ 8
  o4 : w.opn.length ≤ 4
theorem pre_start : VW.pre ⟨[], []⟩ := ⟨by simp, .nil, Nat.zero_le _, Nat.zero_le _⟩
def WStat (B p : Nat) (K : Value) (r i : Int) (v : VW) (w : World) : Prop := ∃ a n c a' n' c', WAt B p K r i a n c a' n' c' v.stk (v.opn.map so) w
theorem opn_cases (l : List VO) : l = [] ∨ ∃ os o, l = os ++ [o] := by
  rcases List.eq_nil_or_concat l with h | ⟨os, o, h⟩
  · exact .inl h
  · exact .inr ⟨os, o, by simpa using h⟩
theorem floor_nil (st : List UInt8) : VW.floor ⟨st, []⟩ = 0 := rfl
section
variable {B p : Nat} {K : Value} {r i : Int} {a a' : Option Addr} {n c n' c' : Nat} {stk : List UInt8} {opn : List SO} {w w' : World}
theorem WAt.opened_row {os : List SO} {z : SO} (h : WAt B p K r i a n c a' n' c' stk (os ++ [z]) w) : ∃ g m, a' = some ⟨g, 0, none⟩ ∧ n' = m + 1 ∧ os.length = m ∧ m + 1 ≤ c' := by
  have hl := h.olen
  simp only [List.length_append, List.length_singleton] at hl
  rcases h.opens.2 with ⟨_, h0⟩ | ⟨g, cap, cur, e, _, _, hc, _⟩
  · omega
  · simp only [Value.slice.injEq] at e
    obtain ⟨rfl, _, rfl⟩ := e
    exact ⟨g, os.length, rfl, hl.symm, rfl, by omega⟩
theorem WAt.last {os : List SO} {z : SO} {g m : Nat} (h : WAt B p K r i a n c (some ⟨g, 0, none⟩) (m + 1) c' stk (os ++ [z]) w) :
    w.cell? ⟨g, m * 3, none⟩ = some (.int .i64 z.1) ∧ w.cell? ⟨g, m * 3 + 1, none⟩ = some (.int .i64 z.2.1) ∧ w.cell? ⟨g, m * 3 + 2, none⟩ = some (.bool z.2.2) ∧ ∀ k, w.frozen? ⟨g, k, none⟩ = false := by
  have hl : os.length = m := by have := h.olen; simp at this; omega
  have hat : ∀ j, j < 3 → w.cell? ⟨g, m * 3 + j, none⟩ = (soC z)[j]? := fun j hj => by
    rw [h.opens.cellAt _ (by omega)]
    exact flat_at soC_len (show (os ++ [z])[m]? = some z by rw [← hl]; simp) hj
  exact ⟨hat 0 (by omega), hat 1 (by omega), hat 2 (by omega), fun k => h.opens.frozenAt k⟩
theorem WAt.floor {v : VW} (h : WAt B p K r i a n c a' n' c' v.stk (v.opn.map so) w) (hp : v.pre) : Floor p v.floor w := by
  obtain ⟨st, opn⟩ := v
  rcases opn_cases opn with rfl | ⟨os, o, rfl⟩
  · have hl := h.olen
    simp at hl
    subst hl
    exact floor_none p c' a' w h.cells.2.2.2.2
  · have h' := h
    rw [List.map_append, List.map_singleton] at h'
    obtain ⟨g, m, rfl, rfl, hm, hc⟩ := h'.opened_row
    have h4 := hp.o4
    simp at h4 hm
    have hk := h'.last.2.1
    have e : VW.floor ⟨st, os ++ [o]⟩ = o.stk.length := floor_snoc st os o
    rw [e]
    exact floor_some p g m c' o.stk.length (by omega) w h'.cells.2.2.2.2 hk
end
theorem u8s_bytes {w : World} {B g n c : Nat} {st : List UInt8} (h : w.ownsRow B 5 1 (.slice (some ⟨g, 0, none⟩) n c) n (u8s st)) (r k : Nat) (hk : r + k = n) (cc : Nat) (q : Nat) :
    (convert 46 9 (.slice (some ⟨g, r, none⟩) k cc)).run Tryz.prog (w.drewN q) = .ok (.string ⟨(st.drop r).toArray⟩) (w.drewN q) := by
  have hl : st.length = n := by have := h.1; rw [u8s_len] at this; omega
  have hk' : k = (st.drop r).length := by rw [List.length_drop]; omega
  rw [hk']
  exact run_convert_bytes_back (P := Tryz.prog) (w.drewN q) 46 9 5 ⟨g, r, none⟩ cc (st.drop r) Tryz.underlying46 Tryz.underlying5 Tryz.underlying9 (fun j hj => by
    have hc := h.cellAt (r + j) (by rw [List.length_drop] at hj; omega)
    rw [List.length_drop] at hj
    have h2 : (u8s st)[r + j]? = some (.int .u8 ((st.drop r)[j]'(by rw [List.length_drop]; omega)).toNat) := by simp [u8s, List.getElem?_eq_getElem (show r + j < st.length by omega)]
    rw [h2] at hc
    rw [show (⟨g, r, none⟩ : Addr).add j = ⟨g, r + j, none⟩ by simp [Addr.add]]
    exact hc)
theorem beq_yes {x y : List UInt8} {u t : ByteArray} (hu : u.data.toList = x) (ht : t.data.toList = y) (h : x = y) : (u.toList == t.toList) = true := by
  rw [ByteArray.toList_eq, ByteArray.toList_eq, hu, ht, h]
  simp
theorem beq_no {x y : List UInt8} {u t : ByteArray} (hu : u.data.toList = x) (ht : t.data.toList = y) (h : x ≠ y) : (u.toList == t.toList) = false := by
  rw [ByteArray.toList_eq, ByteArray.toList_eq, hu, ht]
  simpa using h
/-- pop, in the plain verifier's words. -/
theorem pop_any {B p : Nat} {K : Value} {r i : Int} {v : VW} {w : World} (h : WStat B p K r i v w) (hp : v.pre) (t : ByteArray) (ht : t.size ≤ 3) :
    Calls Tryz.prog 238 #[.pointer (some ⟨p, 0, none⟩), .string t] w fun e w' => Below B w w' ∧
      (((vTake v.stk t.data.toList v.floor).2 = 0 ∧ e = .returned (.tuple #[]) ∧ WStat B p K r i ⟨(vTake v.stk t.data.toList v.floor).1, v.opn⟩ w' ∧ Keeps w w') ∨ ((vTake v.stk t.data.toList v.floor).2 ≠ 0 ∧ e = Off i (vTake v.stk t.data.toList v.floor).2)) := by
  obtain ⟨a, n, c, a', n', c', h⟩ := h
  have hn := h.slen
  have h8 := hp.s8
  obtain ⟨c0, c1, c2, c3, c4⟩ := h.cells
  have hfl := h.floor hp
  have hfle : v.floor ≤ v.stk.length := by
    obtain ⟨st, opn⟩ := v
    rcases opn_cases opn with rfl | ⟨os, o, rfl⟩
    · exact Nat.zero_le _
    · rw [floor_snoc]
      exact (hp.pfx o (by simp)).length_le
  have hts : t.data.toList.length = t.size := rfl
  generalize hF : v.floor = f at *
  by_cases h1 : v.stk.length < f + t.data.toList.length
  · have e : vTake v.stk t.data.toList f = ([], 13) := if_pos h1
    rw [e]
    exact (pop_short p n c f a i t (by omega) (by omega) (by omega) w c3 (fun q => c2) hfl).mono fun e w' ⟨he, q, hw⟩ => ⟨hw ▸ bel_dn (Below.refl B w) q, .inr ⟨by decide, he⟩⟩
  · have hk : n = (n - t.size) + t.size := by omega
    have hst : v.stk = v.stk.take (n - t.size) ++ v.stk.drop (n - t.size) := (List.take_append_drop _ _).symm
    have hdl : v.stk.length - t.data.toList.length = n - t.size := by omega
    by_cases h2 : v.stk.drop (n - t.size) = t.data.toList
    · have e : vTake v.stk t.data.toList f = (v.stk.take (n - t.size), 0) := by unfold vTake; rw [if_neg h1, hdl, if_pos h2]
      rw [e]
      rcases h.stack.2 with ⟨e0, h0⟩ | ⟨g, cap, cur, e0, _, _, hcap, _⟩
      · simp only [Value.slice.injEq] at e0
        obtain ⟨rfl, rfl, rfl⟩ := e0
        have ht0 : t.size = 0 := by omega
        have hs0 : v.stk = [] := List.eq_nil_of_length_eq_zero hn
        have hf0 : f = 0 := by omega
        subst hf0
        refine (pop_nil p t ht0 w c3 (h.frozen 3) hfl (fun q => by have := Lib.run_convert_nil_bytes (P := Tryz.prog) (w.drewN q) 46 9 5 0 Tryz.underlying46 Tryz.underlying5 Tryz.underlying9; simpa using this) (by rw [ByteArray.toList_eq]; have : t.data.toList = [] := List.eq_nil_of_length_eq_zero (by omega); rw [this]; rfl)).mono fun e w' ⟨he, q, hw⟩ => ?_
        subst hw
        obtain ⟨h3, h4⟩ := h.popnil q
        exact ⟨h4.1, .inl ⟨rfl, he, ⟨none, 0, 0, a', n', c', by rw [hs0] at h3; simpa [hs0] using h3⟩, h4.2⟩⟩
      · simp only [Value.slice.injEq] at e0
        obtain ⟨rfl, _, rfl⟩ := e0
        have hR : w.ownsRow B 5 1 (.slice (some ⟨g, 0, none⟩) n c) n (u8s v.stk) := h.stack
        have hu : (⟨(v.stk.drop (n - t.size)).toArray⟩ : ByteArray).data.toList = v.stk.drop (n - t.size) := by simp
        have h' := h
        rw [hst] at h'
        rw [hk] at h' c3 hcap
        rw [show n - t.size + t.size - t.size = n - t.size by omega] at h'
        refine (pop_some p g (n - t.size) c f t ⟨(v.stk.drop (n - t.size)).toArray⟩ hcap (by omega) (by omega) w c3 (h.frozen 3) hfl (fun q cc => u8s_bytes hR (n - t.size) t.size (by omega) cc q) (fun hr q cc => ?_) (beq_yes hu rfl h2)).mono fun e w' ⟨he, q, hw⟩ => ?_
        · have ht0 : t.size = 0 := by omega
          have e1 : v.stk.drop (n - t.size) = [] := List.drop_eq_nil_of_le (by omega)
          rw [e1, ht0]
          exact run_convert_bytes_back (P := Tryz.prog) (w.drewN q) 46 9 5 ⟨g, 0, none⟩ cc [] Tryz.underlying46 Tryz.underlying5 Tryz.underlying9 (fun j hj => by simp at hj)
        · subst hw
          obtain ⟨h3, h4⟩ := h'.popped (by simp; omega) q
          exact ⟨h4.1, .inl ⟨rfl, he, ⟨_, _, _, a', n', c', h3⟩, h4.2⟩⟩
    · have e : vTake v.stk t.data.toList f = ([], 12) := by unfold vTake; rw [if_neg h1, hdl, if_neg h2]
      rw [e]
      have hz : 0 < t.size := by
        rcases Nat.eq_zero_or_pos t.size with h0 | h0
        · refine absurd ?_ h2
          rw [List.drop_eq_nil_of_le (by omega)]
          exact (List.eq_nil_of_length_eq_zero (by omega)).symm
        · exact h0
      rcases h.stack.2 with ⟨e0, h0⟩ | ⟨g, cap, cur, e0, _, _, hcap, _⟩
      · omega
      · simp only [Value.slice.injEq] at e0
        obtain ⟨rfl, _, rfl⟩ := e0
        have hR : w.ownsRow B 5 1 (.slice (some ⟨g, 0, none⟩) n c) n (u8s v.stk) := h.stack
        have hu : (⟨(v.stk.drop (n - t.size)).toArray⟩ : ByteArray).data.toList = v.stk.drop (n - t.size) := by simp
        rw [hk] at c3 hcap
        exact (pop_type p g (n - t.size) c f i t ⟨(v.stk.drop (n - t.size)).toArray⟩ hcap (by omega) hz (by omega) w c3 (fun q => c2) hfl (fun q cc => u8s_bytes hR (n - t.size) t.size (by omega) cc q) (beq_no hu rfl h2)).mono fun e w' ⟨he, q, hw⟩ => ⟨hw ▸ bel_dn (Below.refl B w) q, .inr ⟨by decide, he⟩⟩
end Go.Proofs.YtppgknjpbfopjaaGreatDoor
namespace Go.Proofs.YtppgknjpbfopjaaGreatDoor
open Go.ChangeShapes Go.WideShapes Go.ChangeAt Go.RowKit
set_option linter.unusedVariables false
theorem push_any {B p : Nat} {K : Value} {r i : Int} {v : VW} {w : World} (h : WStat B p K r i v w) (hp : v.pre) (t : ByteArray) (ht : t.size ≤ 3) :
    Calls Tryz.prog 239 #[.pointer (some ⟨p, 0, none⟩), .string t] w fun e w' => Below B w w' ∧
      ((v.stk.length + t.data.toList.length ≤ 8 ∧ e = .returned (.tuple #[]) ∧ WStat B p K r i ⟨v.stk ++ t.data.toList, v.opn⟩ w' ∧ Keeps w w') ∨ (8 < v.stk.length + t.data.toList.length ∧ e = Off i 7)) := by
  obtain ⟨a, n, c, a', n', c', h⟩ := h
  have hn := h.slen
  have h8 := hp.s8
  obtain ⟨c0, c1, c2, c3, c4⟩ := h.cells
  have hts : t.data.toList.length = t.size := rfl
  rw [hts]
  by_cases h1 : n + t.size ≤ 8
  · refine (push_ok B p n c a (u8s v.stk) t h1 w h.low h.plt c3 (h.frozen 3) h.stack (fun e => h.nes e.symm)).mono fun e w' ⟨he, hw⟩ => ?_
    obtain ⟨⟨a2, c2', h2⟩, hb⟩ := h.pushed hw
    exact ⟨hb.1, .inl ⟨by omega, he, ⟨a2, n + t.size, c2', a', n', c', h2⟩, hb.2⟩⟩
  · exact (push_no B p n c a (u8s v.stk) t i (by omega) (by omega) (by omega) w h.low h.plt c3 (h.frozen 3) h.stack (fun e => h.nes e.symm) h.base c2).mono fun e w' ⟨he, hw⟩ => ⟨hw, .inr ⟨by omega, he⟩⟩
theorem find_any {B p : Nat} {k : Option Addr} {kc : Nat} {ks : List Int} {r i : Int} {v : VW} {w : World} (h : WStat B p (.slice k ks.length kc) r i v w) (x y : Int) :
    Calls Tryz.prog 236 #[.pointer (some ⟨p, 0, none⟩), .agg #[.int .i64 x, .int .i64 y]] w fun e w' => Below w.heap.size w w' ∧
      ((vFind ks r (x, y) = 0 ∧ e = .returned (.tuple #[])) ∨ (vFind ks r (x, y) ≠ 0 ∧ e = Off i (vFind ks r (x, y)))) := by
  obtain ⟨a, n, c, a', n', c', h⟩ := h
  obtain ⟨c0, c1, c2, c3, c4⟩ := h.cells
  by_cases h1 : x = 19 ∨ x = 20
  · by_cases h2 : (ks.length : Int) ≤ y
    · have e : vFind ks r (x, y) = 5 := if_pos ⟨h1, h2⟩
      rw [e]
      exact (find_block_no p ks.length kc k x y i h1 h2 w h.plt c0 c2).mono fun e w' ⟨he, hb⟩ => ⟨hb, .inr ⟨by decide, he⟩⟩
    · have e : vFind ks r (x, y) = 0 := by unfold vFind; rw [if_neg (fun q => h2 q.2), if_neg (fun q => by have := q.1; simp only at this; omega)]
      rw [e]
      exact (find_block_ok p ks.length kc k x y h1 (by omega) w h.plt c0).mono fun e w' ⟨he, hb⟩ => ⟨hb, .inl ⟨rfl, he⟩⟩
  · by_cases h3 : x = 26
    · subst h3
      by_cases h4 : r ≤ y
      · have e : vFind ks r (26, y) = 15 := by unfold vFind; rw [if_neg (fun q => h1 q.1), if_pos ⟨rfl, h4⟩]
        rw [e]
        exact (find_call_no p y r i h4 w h.plt c1 c2).mono fun e w' ⟨he, hb⟩ => ⟨hb, .inr ⟨by decide, he⟩⟩
      · have e : vFind ks r (26, y) = 0 := by unfold vFind; rw [if_neg (fun q => h1 q.1), if_neg (fun q => h4 q.2)]
        rw [e]
        exact (find_call_ok p y r (by omega) w h.plt c1).mono fun e w' ⟨he, hb⟩ => ⟨hb, .inl ⟨rfl, he⟩⟩
    · have e : vFind ks r (x, y) = 0 := by unfold vFind; rw [if_neg (fun q => h1 q.1), if_neg (fun q => h3 q.1)]
      rw [e]
      exact (find_plain p x y w (beq_eq_false_iff_ne.2 (by omega)) (beq_eq_false_iff_ne.2 (by omega)) (beq_eq_false_iff_ne.2 h3)).mono fun e w' ⟨he, hb⟩ => ⟨hb, .inl ⟨rfl, he⟩⟩
end Go.Proofs.YtppgknjpbfopjaaGreatDoor
namespace Go.Proofs.YtppgknjpbfopjaaGreatDoor
open Go.ChangeShapes Go.WideShapes Go.ChangeAt Go.RowKit
set_option linter.unusedVariables false
theorem pfx_eq {s t : List UInt8} (h : s <+: t) : (t ≠ s) ↔ (t.length : Int) ≠ (s.length : Int) := by
  constructor
  · intro hne e
    exact hne (h.eq_of_length (by omega)).symm
  · intro hne e
    subst e
    exact hne rfl
theorem last_snoc (os : List VO) (o : VO) : (os ++ [o]).getLast? = some o := by simp
theorem drop_snoc (os : List VO) (o : VO) : (os ++ [o]).dropLast = os := by simp
def NestOut (x : Ins) (i : Int) (v : VW) : VW × Int := if 21 ≤ x.1 ∧ x.1 ≤ 24 then vNest x i v else (v, 0)
theorem nest_any {B p : Nat} {K : Value} {r i : Int} {v : VW} {w : World} (h : WStat B p K r i v w) (hp : v.pre) (x y : Int) :
    Calls Tryz.prog 240 #[.pointer (some ⟨p, 0, none⟩), .int .i64 x] w fun e w' => Below B w w' ∧
      (((NestOut (x, y) i v).2 = 0 ∧ e = .returned (.tuple #[]) ∧ WStat B p K r i (NestOut (x, y) i v).1 w' ∧ Keeps w w') ∨ ((NestOut (x, y) i v).2 ≠ 0 ∧ e = Off i (NestOut (x, y) i v).2)) := by
  obtain ⟨a, n, c, a', n', c', h⟩ := h
  have hn := h.slen
  have ho := h.olen
  have h8 := hp.s8
  have h4 := hp.o4
  obtain ⟨c0, c1, c2, c3, c4⟩ := h.cells
  obtain ⟨st, opn⟩ := v
  simp only [List.length_map] at ho h4 hn h8
  by_cases h0 : 21 ≤ x ∧ x ≤ 24
  · have e0 : NestOut (x, y) i ⟨st, opn⟩ = vNest (x, y) i ⟨st, opn⟩ := if_pos h0
    rw [e0]
    by_cases h1 : x = 21 ∨ x = 24
    · by_cases h5 : opn.length = 4
      · have e : vNest (x, y) i ⟨st, opn⟩ = (⟨st, opn⟩, 17) := by unfold vNest; rw [if_pos h1, if_pos h5]
        rw [e]
        have hn4 : n' = 4 := by omega
        subst hn4
        exact (nest_deep p c' a' x i h1 w c2 c4).mono fun e w' ⟨he, hw⟩ => ⟨hw ▸ Below.refl B _, .inr ⟨by simp, he⟩⟩
      · have e : vNest (x, y) i ⟨st, opn⟩ = (⟨st, opn ++ [⟨i, x, st⟩]⟩, 0) := by unfold vNest; rw [if_pos h1, if_neg h5]
        rw [e]
        refine (nest_open B p n c n' c' a a' (flat soC (opn.map so)) i x h1 (by omega) (by omega) w h.low h.plt c2 c3 c4 (h.frozen 4) h.opens (fun e => h.neo e.symm)).mono fun e w' ⟨he, hw⟩ => ?_
        have hz : [Value.int .i64 i, .int .i64 n, .bool (x == 21)] = soC (so ⟨i, x, st⟩) := by simp [so, soC, hn]
        rw [hz] at hw
        obtain ⟨⟨a2, c2', h2⟩, hb⟩ := h.opened hw
        exact ⟨hb.1, .inl ⟨rfl, he, ⟨a, n, c, a2, n' + 1, c2', by simpa using h2⟩, hb.2⟩⟩
    · have h1' : x = 22 ∨ x = 23 := by omega
      rcases opn_cases opn with rfl | ⟨os, o, rfl⟩
      · have e : vNest (x, y) i ⟨st, []⟩ = (⟨st, []⟩, 14) := by unfold vNest; rw [if_neg h1]; rfl
        rw [e]
        simp at ho
        subst ho
        exact (nest_none p c' a' x i h1' w c2 c4).mono fun e w' ⟨he, hw⟩ => ⟨hw ▸ Below.refl B _, .inr ⟨by simp, he⟩⟩
      · have h' := h
        rw [List.map_append, List.map_singleton] at h'
        obtain ⟨g, m, rfl, rfl, hm, hc⟩ := h'.opened_row
        obtain ⟨k0, k1, k2, kf⟩ := h'.last
        have hm4 : m + 1 ≤ 100 := by omega
        have hpf : o.stk <+: st := hp.pfx o (by simp)
        have hpe := pfx_eq hpf
        rw [hn] at hpe
        by_cases h22 : x = 22
        · subst h22
          by_cases ht : o.op = 21
          · have kt : w.cell? ⟨g, m * 3 + 2, none⟩ = some (.bool true) := by rw [k2]; simp [so, ht]
            by_cases hl : st = o.stk
            · have e : vNest (22, y) i ⟨st, os ++ [o]⟩ = (⟨st, os ++ [⟨o.pos, 22, o.stk⟩]⟩, 0) := by
                unfold vNest; rw [if_neg h1]; simp only [last_snoc, drop_snoc]; rw [if_neg (by simp [ht]), if_neg (by simpa using hl)]; rfl
              rw [e]
              have hk1 : w.cell? ⟨g, m * 3 + 1, none⟩ = some (.int .i64 n) := by rw [k1]; simp [so, ← hn, hl]
              refine (else_ok p g m c' n c a hm4 w (fun q => c3) c4 kt (kf _) (fun q => hk1)).mono fun e w' ⟨he, q, hw⟩ => ?_
              subst hw
              have hz : so o = (o.pos, (o.stk.length : Int), true) := by simp [so, ht]
              rw [hz] at h'
              obtain ⟨h2, hb⟩ := h'.elsed q
              exact ⟨hb.1, .inl ⟨rfl, he, ⟨a, n, c, _, _, c', by simpa [so] using h2⟩, hb.2⟩⟩
            · have e : vNest (22, y) i ⟨st, os ++ [o]⟩ = (⟨st, os ++ [o]⟩, 13) := by
                unfold vNest; rw [if_neg h1]; simp only [last_snoc, drop_snoc]; rw [if_neg (by simp [ht]), if_pos (by simpa using hl)]
              rw [e]
              exact (else_level p g m c' n c a i o.stk.length hm4 (hpe.1 hl) w (fun q => c2) (fun q => c3) c4 kt (fun q => k1)).mono fun e w' ⟨he, q, hw⟩ => ⟨hw ▸ bel_dn (Below.refl B w) q, .inr ⟨by simp, he⟩⟩
          · have e : vNest (22, y) i ⟨st, os ++ [o]⟩ = (⟨st, os ++ [o]⟩, 14) := by
              unfold vNest; rw [if_neg h1]; simp only [last_snoc, drop_snoc]; rw [if_pos ⟨trivial, ht⟩]
            rw [e]
            have kt : w.cell? ⟨g, m * 3 + 2, none⟩ = some (.bool false) := by rw [k2]; simp [so, ht]
            exact (else_not p g m c' i hm4 w (fun q => c2) c4 kt).mono fun e w' ⟨he, q, hw⟩ => ⟨hw ▸ bel_dn (Below.refl B w) q, .inr ⟨by simp, he⟩⟩
        · have h23 : x = 23 := by omega
          subst h23
          by_cases hl : st = o.stk
          · have e : vNest (23, y) i ⟨st, os ++ [o]⟩ = (⟨st, os⟩, 0) := by
              unfold vNest; rw [if_neg h1]; simp only [last_snoc, drop_snoc]; rw [if_neg (by simp), if_neg (by simpa using hl)]; rfl
            rw [e]
            have hk1 : w.cell? ⟨g, m * 3 + 1, none⟩ = some (.int .i64 n) := by rw [k1]; simp [so, ← hn, hl]
            refine (end_ok p g m c' n c a hm4 hc w (fun q => c3) c4 (h.frozen 4) (fun q => hk1)).mono fun e w' ⟨he, q, hw⟩ => ?_
            subst hw
            obtain ⟨h2, hb⟩ := h'.closed q
            exact ⟨hb.1, .inl ⟨rfl, he, ⟨a, n, c, _, _, c', h2⟩, hb.2⟩⟩
          · have e : vNest (23, y) i ⟨st, os ++ [o]⟩ = (⟨st, os ++ [o]⟩, 13) := by
              unfold vNest; rw [if_neg h1]; simp only [last_snoc, drop_snoc]; rw [if_neg (by simp), if_pos (by simpa using hl)]
            rw [e]
            exact (end_level p g m c' n c a i o.stk.length hm4 (hpe.1 hl) w (fun q => c2) (fun q => c3) c4 (fun q => k1)).mono fun e w' ⟨he, q, hw⟩ => ⟨hw ▸ bel_dn (Below.refl B w) q, .inr ⟨by simp, he⟩⟩
  · have e0 : NestOut (x, y) i ⟨st, opn⟩ = (⟨st, opn⟩, 0) := if_neg h0
    rw [e0]
    exact (nest_plain p x w (beq_eq_false_iff_ne.2 (by omega)) (beq_eq_false_iff_ne.2 (by omega)) (beq_eq_false_iff_ne.2 (by omega)) (beq_eq_false_iff_ne.2 (by omega))).mono fun e w' ⟨he, hw⟩ => ⟨hw ▸ Below.refl B _, .inl ⟨rfl, he, ⟨a, n, c, a', n', c', hw ▸ h⟩, hw ▸ Keeps.refl _⟩⟩
end Go.Proofs.YtppgknjpbfopjaaGreatDoor
namespace Go.Proofs.YtppgknjpbfopjaaGreatDoor
open Go.ChangeShapes Go.WideShapes Go.ChangeAt Go.RowKit
set_option linter.unusedVariables false
theorem pfx_take {s t : List UInt8} {k : Nat} (h : s <+: t) (hk : s.length ≤ k) : s <+: t.take k := by
  obtain ⟨u, rfl⟩ := h
  rw [List.take_append]
  rw [List.take_of_length_le hk]
  exact List.prefix_append _ _
theorem vTake_le {st tk : List UInt8} {f : Nat} (h : (vTake st tk f).2 = 0) : (vTake st tk f).1 = st.take (st.length - tk.length) ∧ f + tk.length ≤ st.length := by
  unfold vTake at *
  split at h
  · exact absurd h (by simp)
  · split at h
    · rename_i h1 h2
      rw [if_neg h1, if_pos h2]
      exact ⟨rfl, by omega⟩
    · exact absurd h (by simp)
theorem floor_ge {v : VW} (hp : v.pre) : ∀ o ∈ v.opn, o.stk.length ≤ v.floor := by
  obtain ⟨st, opn⟩ := v
  rcases opn_cases opn with rfl | ⟨os, o, rfl⟩
  · simp
  · intro q hq
    rw [floor_snoc]
    have := List.pairwise_append.1 hp.asc
    simp only [List.mem_append, List.mem_singleton] at hq
    rcases hq with hq | rfl
    · exact this.2.2 q hq o (by simp)
    · exact Nat.le_refl _
/-- Behind what is taken and put, what lies below the open structures is still there. -/
theorem pre_taken {v : VW} (hp : v.pre) {tk pt : List UInt8} (h : (vTake v.stk tk v.floor).2 = 0) (h8 : (vTake v.stk tk v.floor).1.length + pt.length ≤ 8) : VW.pre ⟨(vTake v.stk tk v.floor).1 ++ pt, v.opn⟩ := by
  obtain ⟨e, hl⟩ := vTake_le h
  rw [e] at h8 ⊢
  refine ⟨fun o ho => ?_, hp.asc, by simp only [List.length_append]; omega, hp.o4⟩
  have h1 := floor_ge hp o ho
  exact (pfx_take (hp.pfx o ho) (by omega)).trans (List.prefix_append _ _)
theorem pre_taken0 {v : VW} (hp : v.pre) {tk : List UInt8} (h : (vTake v.stk tk v.floor).2 = 0) : VW.pre ⟨(vTake v.stk tk v.floor).1, v.opn⟩ := by
  have := pre_taken hp (pt := []) h (by rw [(vTake_le h).1]; have := hp.s8; simp; omega)
  simpa using this
theorem pre_nest {v : VW} (hp : v.pre) {x : Ins} {i : Int} (h : (NestOut x i v).2 = 0) : (NestOut x i v).1.pre := by
  unfold NestOut at *
  split at h
  · rename_i h0
    rw [if_pos h0]
    obtain ⟨st, opn⟩ := v
    unfold vNest at *
    split at h
    · rename_i h1
      rw [if_pos h1]
      split at h
      · exact absurd h (by simp)
      · rename_i h2
        rw [if_neg h2]
        have h4 := hp.o4
        refine ⟨fun o ho => ?_, ?_, hp.s8, by simp only [List.length_append, List.length_singleton]; simp only at h4 h2; omega⟩
        · simp only [List.mem_append, List.mem_singleton] at ho
          rcases ho with ho | rfl
          · exact hp.pfx o ho
          · exact List.prefix_rfl
        · refine List.pairwise_append.2 ⟨hp.asc, by simp, fun a ha b hb => ?_⟩
          simp only [List.mem_singleton] at hb
          subst hb
          exact (hp.pfx a ha).length_le
    · rename_i h1
      rw [if_neg h1]
      rcases opn_cases opn with rfl | ⟨os, o, rfl⟩
      · exact absurd h (by simp)
      · simp only [last_snoc, drop_snoc] at h ⊢
        have hasc := List.pairwise_append.1 hp.asc
        have h4 := hp.o4
        simp only [List.length_append, List.length_singleton] at h4
        split at h
        · exact absurd h (by simp)
        · rename_i h2
          rw [if_neg h2]
          split at h
          · exact absurd h (by simp)
          · rename_i h3
            rw [if_neg h3]
            split at h
            · rename_i h5
              rw [if_pos h5]
              refine ⟨fun q hq => ?_, ?_, hp.s8, by simp only [List.length_append, List.length_singleton]; omega⟩
              · simp only [List.mem_append, List.mem_singleton] at hq
                rcases hq with hq | rfl
                · exact hp.pfx q (by simp [hq])
                · exact hp.pfx o (by simp)
              · exact List.pairwise_append.2 ⟨hasc.1, by simp, fun a ha b hb => by simp only [List.mem_singleton] at hb; subst hb; exact hasc.2.2 a ha o (by simp)⟩
            · rename_i h5
              rw [if_neg h5]
              exact ⟨fun q hq => hp.pfx q (by simp [hq]), hasc.1, hp.s8, by simp only; omega⟩
  · rename_i h0
    rw [if_neg h0]
    exact hp
/-- A step, in three parts. -/
theorem vStep_eq (ks : List Int) (r : Int) (x : Ins) (i : Int) (v : VW) : vStep ks r x i v =
    if vFind ks r x ≠ 0 then (v, vFind ks r x) else if (vTake v.stk (vSign ks x).1 v.floor).2 ≠ 0 then (v, (vTake v.stk (vSign ks x).1 v.floor).2)
    else if 8 < (vTake v.stk (vSign ks x).1 v.floor).1.length + (vSign ks x).2.length then (v, 7) else NestOut x i ⟨(vTake v.stk (vSign ks x).1 v.floor).1 ++ (vSign ks x).2, v.opn⟩ := by
  unfold vStep vFind NestOut
  by_cases h1 : (x.1 = 19 ∨ x.1 = 20) ∧ (ks.length : Int) ≤ x.2
  · rw [if_pos h1, if_pos h1, if_pos (by decide)]
  · rw [if_neg h1, if_neg h1]
    by_cases h2 : x.1 = 26 ∧ r ≤ x.2
    · rw [if_pos h2, if_pos h2, if_pos (by decide)]
    · rw [if_neg h2, if_neg h2, if_neg (show ¬ ((0 : Int) ≠ 0) by decide)]
theorem pre_step {ks : List Int} {r : Int} {x : Ins} {i : Int} {v : VW} (hp : v.pre) (h : (vStep ks r x i v).2 = 0) : (vStep ks r x i v).1.pre := by
  rw [vStep_eq] at *
  split at h
  · rename_i h1; exact absurd h h1
  · rename_i h1
    rw [if_neg h1]
    split at h
    · rename_i h2; exact absurd h h2
    · rename_i h2
      rw [if_neg h2]
      split at h
      · exact absurd h (by simp)
      · rename_i h3
        rw [if_neg h3]
        exact pre_nest (pre_taken hp (Classical.not_not.1 h2) (by omega)) h
end Go.Proofs.YtppgknjpbfopjaaGreatDoor
namespace Go.Proofs.YtppgknjpbfopjaaGreatDoor
open Go.ChangeShapes Go.WideShapes Go.ChangeAt Go.RowKit
set_option linter.unusedVariables false
/-- What a verifier is handed lies ahead of it. -/
structure VGiven (W : World) (k : Option Addr) (ks : List Int) : Prop where
  eff : EffTab W
  fb : FbTab W
  lies : Lies W k (kC ks)
  kinds : ∀ z ∈ ks, kindB z = true
theorem VGiven.at {W w : World} {k : Option Addr} {ks : List Int} (h : VGiven W k ks) (hb : Below W.heap.size W w) : VGiven w k ks :=
  ⟨h.eff.below hb (Nat.le_refl _), h.fb.below hb (Nat.le_refl _), h.lies.below hb (Nat.le_refl _), h.kinds⟩
theorem WStat.bel {B p : Nat} {K : Value} {r i : Int} {v : VW} {w w' : World} (h : WStat B p K r i v w) (hb : Below w.heap.size w w') : WStat B p K r i v w' := by
  obtain ⟨a, n, c, a', n', c', h⟩ := h
  exact ⟨a, n, c, a', n', c', h.bel hb⟩
theorem WStat.low {B p : Nat} {K : Value} {r i : Int} {v : VW} {w : World} (h : WStat B p K r i v w) : B ≤ w.heap.size := by
  obtain ⟨a, n, c, a', n', c', h⟩ := h
  exact h.low
theorem WStat.plt {B p : Nat} {K : Value} {r i : Int} {v : VW} {w : World} (h : WStat B p K r i v w) : p < w.heap.size := by
  obtain ⟨a, n, c, a', n', c', h⟩ := h
  exact h.plt
def StepEnd (B p : Nat) (K : Value) (r i : Int) (R : VW × Int) (w : World) (e : Ending) (w' : World) : Prop :=
  Below B w w' ∧ ((R.2 = 0 ∧ e = .returned (.tuple #[]) ∧ WStat B p K r i R.1 w') ∨ (R.2 ≠ 0 ∧ e = Off i R.2))
theorem stepEnd_no {B p : Nat} {K : Value} {r i c : Int} {v : VW} {S : VW × Int} {w w' : World} (hS : S = (v, c)) (hc : c ≠ 0) (hb : Below B w w') : StepEnd B p K r i S w (Off i c) w' := by
  subst hS
  exact ⟨hb, .inr ⟨hc, rfl⟩⟩
theorem box_new (w : World) (O : Obj) : (w.alloc O).heap[w.heap.size]? = some O := heap_alloc_new w O
theorem below_at {w w' : World} {k : Nat} {O : Obj} (h : w.heap[k]? = some O) (hb : Below w.heap.size w w') : w'.heap[k]? = some O := (hb.block k (Array.getElem?_eq_some_iff.1 h).1).trans h
theorem alloc_at {w : World} {k : Nat} {O : Obj} (h : w.heap[k]? = some O) (O' : Obj) : (w.alloc O').heap[k]? = some O := (Below.heap_alloc w O' k (Array.getElem?_eq_some_iff.1 h).1).trans h
theorem keeps_instr {w w' : World} {k : Nat} {cs : Array Value} (h : w.heap[k]? = some (.cells cs 170 (0, 0))) (hk : Keeps w w') : w'.heap[k]? = some (.cells cs 170 (0, 0)) := hk k cs _ _ h (by decide) (by decide) (by decide)
theorem keeps_effect {w w' : World} {k : Nat} {cs : Array Value} (h : w.heap[k]? = some (.cells cs 279 (0, 0))) (hk : Keeps w w') : w'.heap[k]? = some (.cells cs 279 (0, 0)) := hk k cs _ _ h (by decide) (by decide) (by decide)
theorem WStat.far {B p q : Nat} {K : Value} {r i : Int} {v : VW} {w : World} {cs : Array Value} {fz : Nat × Nat} (h : WStat B p K r i v w) (hq : w.heap[q]? = some (.cells cs 279 fz)) (j : Nat) (u : Value) : WStat B p K r i v (w.setCell ⟨q, j, none⟩ u) := by
  obtain ⟨a, n, c, a', n', c', h⟩ := h
  have hne : p ≠ q := fun e => by
    have := h.blk
    rw [e, hq] at this
    simp only [Option.some.injEq, Obj.cells.injEq] at this
    exact absurd this.2.1 (by decide)
  exact ⟨a, n, c, a', n', c', ⟨h.base, (Below.heap_setCell w ⟨q, j, none⟩ u p hne).trans h.blk, ownsRow_setCell_other h.stack (own_ne h.stack hq (by decide)) _, ownsRow_setCell_other h.opens (own_ne h.opens hq (by decide)) _⟩⟩
/-- Behind the effect of an instruction: the walk, the instruction's box, the effect's. -/
structure SR (B b p : Nat) (K : Value) (r i : Int) (v : VW) (O : Obj) (w0 : World) (T G : ByteArray) (ge : Nat) (X : World) : Prop where
  st : WStat B p K r i v X
  ins : X.heap[b]? = some O
  eff : X.heap[ge]? = some (.cells #[.string T, .string G] 279)
  bel : Below B w0 X
theorem sr_call {B b p : Nat} {K : Value} {r i : Int} {v : VW} {O : Obj} {w0 w1 w2 : World} (h : WStat B p K r i v w1) (hx : w1.heap[b]? = some O) (hb : Below B w0 w1) (h2 : Below w1.drew.heap.size w1.drew w2) (T G : ByteArray) :
    SR B b p K r i v O w0 T G w2.heap.size (w2.alloc (.cells #[.string T, .string G] 279)) := by
  have h2' : Below w1.heap.size w1 w2 := ⟨h2.os, h2.tape, h2.output, h2.size, h2.block⟩
  have hs := h.bel h2'
  exact ⟨hs.bel ((Below.refl _ _).alloc (Nat.le_refl _) _), alloc_at (below_at hx h2') _, box_new w2 _, (hb.trans (h2'.mono h.low)).alloc hs.low _⟩
theorem sr_alloc {B b p : Nat} {K : Value} {r i : Int} {v : VW} {O : Obj} {w0 w1 w2 : World} {cs : Array Value} (h : WStat B p K r i v w1) (hx : w1.heap[b]? = some O) (hb : Below B w0 w1) (h2 : Below (w1.drew.alloc (.cells cs 279)).heap.size (w1.drew.alloc (.cells cs 279)) w2)
    (hq : w2.heap[w1.heap.size]? = some (.cells #[.string ⟨#[]⟩, .string ⟨#[]⟩] 279)) (T G : ByteArray) :
    SR B b p K r i v O w0 T G w1.heap.size ((w2.setCell ⟨w1.heap.size, 0, none⟩ (.string T)).setCell ⟨w1.heap.size, 1, none⟩ (.string G)) := by
  have ha : Below w1.heap.size w1 (w1.drew.alloc (.cells cs 279)) := (Below.refl w1.heap.size w1).drew.alloc (Nat.le_refl _) _
  have h2' : Below w1.heap.size w1 w2 := ha.trans (h2.mono ha.size)
  have hs := h.bel h2'
  have hq1 := wk_set hq 0 (.string T)
  have hlt := (Array.getElem?_eq_some_iff.1 hx).1
  have hl := h.low
  refine ⟨(hs.far hq 0 _).far hq1 1 _, ?_, by simpa using wk_set hq1 1 (.string G), ((hb.trans (h2'.mono hl)).setCell (p := ⟨w1.heap.size, 0, none⟩) hl _).setCell (p := ⟨w1.heap.size, 1, none⟩) hl _⟩
  exact (Below.heap_setCell _ _ _ _ (by simp only; omega)).trans ((Below.heap_setCell _ _ _ _ (by simp only; omega)).trans (below_at hx h2'))
set_option maxHeartbeats 1000000 in
theorem step_any (W : World) (k : Option Addr) (kc : Nat) (ks : List Int) (hg : VGiven W k ks) (p : Nat) (r i : Int) (v : VW) (hp : v.pre) (x y : Int) (hx : okB x y = true) (w : World) (hb : Below W.heap.size W w)
    (h : WStat W.heap.size p (.slice k ks.length kc) r i v w) :
    Calls Tryz.prog 229 #[.pointer (some ⟨p, 0, none⟩), .agg #[.int .i64 x, .int .i64 y]] w (StepEnd W.heap.size p (.slice k ks.length kc) r i (vStep ks r (x, y) i v) w) := by
  have hB := h.low
  have ha := (Below.refl W.heap.size w).alloc hB (.cells #[.int .i64 x, .int .i64 y] 170)
  have ha2 := (Below.refl w.heap.size w).alloc (Nat.le_refl _) (.cells #[.int .i64 x, .int .i64 y] 170)
  have HS := Lib.hid (vStep_eq ks r (x, y) i v)
  obtain ⟨S, hS⟩ : ∃ S, vStep ks r (x, y) i v = S := ⟨_, rfl⟩
  rw [hS] at HS ⊢
  have HF := Lib.hid (find_any (h.bel ha2) x y)
  have H1 := Lib.hid (h.bel ha2)
  have HX1 := Lib.hid (box_new w (.cells #[.int .i64 x, .int .i64 y] 170))
  have Ha := Lib.hid ha
  have Hb := Lib.hid hb
  have HP := Lib.hid hp
  have HX := Lib.hid hx
  have HG := Lib.hid hg
  have hsl := sign_len ks (x, y)
  have HSL := Lib.hid hsl
  clear h ha ha2 hp hx hg hb hS hsl hB
  go_enter Tryz.func229, Tryz.ntmps229
  go_wp2_with fail
  refine Calls.mono HF.out ?_
  rintro e w1 ⟨hb1, h1⟩
  have Hb1 := Lib.hid (Ha.out.trans (hb1.mono (H1.out.low)))
  have H2 := Lib.hid (H1.out.bel hb1)
  have hx1 := below_at HX1.out hb1
  have HX2 := Lib.hid hx1
  have d0 := cell_of_row w1 w.heap.size 0 _ _ _ hx1
  have d1 := cell_of_row w1 w.heap.size 1 _ _ _ hx1
  clear hb1 hx1 HF HX1 H1 Ha
  rcases h1 with ⟨hf, rfl⟩ | ⟨hf, rfl⟩
  case inr =>
    exact ⟨rfl, stepEnd_no (HS.out.trans (if_pos hf)) hf Hb1.out⟩
  have HS2 := Lib.hid (HS.out.trans (if_neg (fun q => q hf)))
  have HF := Lib.hid hf
  clear hf HS
  have HG1 := Lib.hid (HG.out.at (Hb.out.trans Hb1.out))
  have c0 : w1.cell? ⟨p, 0, none⟩ = some (.slice k ks.length kc) := by
    obtain ⟨a, n, c, a', n', c', h⟩ := H2.out
    exact h.cells.1
  have hp1 := H2.out.plt
  have hw1 := (Array.getElem?_eq_some_iff.1 HX2.out).1
  have HT : Hid (∀ X, Below w1.heap.size w1 X → Calls Tryz.prog 237 #[.agg #[.int .i64 x, .int .i64 y], .slice k ks.length kc] X fun e w' => Below X.heap.size X w' ∧
      ∃ T G : ByteArray, e = .returned (.agg #[.string T, .string G]) ∧ T.data.toList = (vSign ks (x, y)).1 ∧ G.data.toList = (vSign ks (x, y)).2) := Lib.hid (fun X hX => effectOf_any (r := r) x y HX.out HF.out (HG1.out.at hX).eff (HG1.out.at hX).fb (HG1.out.at hX).lies HG.out.kinds)
  go_wp2_with fail
  go_region_with (go_at_call 237; refine Calls.mono (HT.out _ (by first | exact (Below.refl w1.heap.size w1).drew | exact (Below.refl w1.heap.size w1).drew.alloc (Nat.le_refl _) _)) ?_; rintro e w2 ⟨hb2, T, G, rfl, hT, hG⟩; have HB2 := Lib.hid hb2; have HTG := Lib.hid (And.intro hT hG); (first | (have hq : w2.heap[w1.heap.size]? = some (.cells #[.string ⟨#[]⟩, .string ⟨#[]⟩] 279) := (hb2.block w1.heap.size (by simp)).trans (heap_alloc_new w1.drew (.cells #[.string ⟨#[]⟩, .string ⟨#[]⟩] 279)); have u0 := cell_of_row w2 w1.heap.size 0 _ _ _ hq; have u1 := cell_of_row w2 w1.heap.size 1 _ _ _ hq; have z0 := frozen_of_row w2 w1.heap.size 0 _ _ hq; have z1 := frozen_of_row w2 w1.heap.size 1 _ _ hq; have HQ := Lib.hid hq; clear hq) | skip); clear hb2 hT hG)
  all_goals
    first
    | (have HS := Lib.hid (sr_call H2.out HX2.out Hb1.out HB2.out T G); generalize w2.alloc (.cells #[.string T, .string G] 279) = X at HS ⊢; generalize w2.heap.size = ge at HS ⊢)
    | (have HS := Lib.hid (sr_alloc H2.out HX2.out Hb1.out HB2.out HQ.out T G); clear u0 u1 z0 z1 HQ; generalize (w2.setCell ⟨w1.heap.size, 0, none⟩ (.string T)).setCell ⟨w1.heap.size, 1, none⟩ (.string G) = X at HS ⊢; generalize w1.heap.size = ge at HS ⊢)
  all_goals
    have H3 := Lib.hid HS.out.st
    have HX3 := Lib.hid HS.out.ins
    have HE3 := Lib.hid HS.out.eff
    have Hb3 := Lib.hid HS.out.bel
    have hx3 := cell_of_row X ge 0 _ _ _ HE3.out
    obtain ⟨hT, hG⟩ := HTG.out
    clear HS HTG
    have hTl : T.size ≤ 3 := by have := HSL.out.1; rw [← hT] at this; exact this
    have hGl : G.size ≤ 3 := by have := HSL.out.2; rw [← hG] at this; exact Nat.le_trans this (by decide)
    rw [← hT, ← hG] at HS2
    have HTl := Lib.hid hTl
    have HGl := Lib.hid hGl
    clear hT hG hTl hGl HSL HX HF HT HG1
    go_wp2_with fail
    refine Calls.mono (pop_any H3.out HP.out T HTl.out) ?_
    clear hx3
    rintro e w4 ⟨hb4, h4⟩
    have Hb4 := Lib.hid (Hb3.out.trans hb4)
    clear hb4
    rcases h4 with ⟨h0, rfl, h4, hk4⟩ | ⟨h0, rfl⟩
    case inr =>
      exact ⟨rfl, stepEnd_no (HS2.out.trans (if_pos h0)) h0 Hb4.out⟩
    have HS3 := Lib.hid (HS2.out.trans (if_neg (fun q => q h0)))
    have H4 := Lib.hid h4
    have HP4 := Lib.hid (pre_taken0 HP.out h0)
    have hx4 := keeps_instr HX3.out hk4
    have he4 := keeps_effect HE3.out hk4
    have HX4 := Lib.hid hx4
    have e1 := cell_of_row w4 ge 1 _ _ _ he4
    have H0 := Lib.hid h0
    clear h4 h0 hk4 hx4 he4 HS2 HX3 HE3 H3 Hb3 HTl
    go_wp2_with fail
    refine Calls.mono (push_any H4.out HP4.out G HGl.out) ?_
    rintro e w5 ⟨hb5, h5⟩
    have Hb5 := Lib.hid (Hb4.out.trans hb5)
    clear hb5 e1
    rcases h5 with ⟨h1, rfl, h5, hk5⟩ | ⟨h1, rfl⟩
    case inr =>
      exact ⟨rfl, stepEnd_no (HS3.out.trans (if_pos h1)) (by decide) Hb5.out⟩
    have HS4 := Lib.hid (HS3.out.trans (if_neg (Nat.not_lt.2 h1)))
    have HP5 := Lib.hid (pre_taken HP.out H0.out h1)
    have H5 := Lib.hid h5
    have hx5 := keeps_instr HX4.out hk5
    have f0 := cell_of_row w5 w.heap.size 0 _ _ _ hx5
    clear h5 h1 hk5 hx5 HS3 HX4 H4 HP4 Hb4 H0
    go_wp2_with fail
    refine Calls.mono (nest_any H5.out HP5.out x y) ?_
    rintro e w6 ⟨hb6, h6⟩
    have Hb6 := Lib.hid (Hb5.out.trans hb6)
    clear hb6 f0
    rcases h6 with ⟨h2, rfl, h6, hk6⟩ | ⟨h2, rfl⟩
    case inr =>
      exact ⟨rfl, Hb6.out, .inr (by rw [HS4.out]; exact ⟨h2, rfl⟩)⟩
    have HE := Lib.hid (show (S.2 = 0 ∧ WStat W.heap.size p (.slice k ks.length kc) r i S.1 w6) by rw [HS4.out]; exact ⟨h2, h6⟩)
    clear h2 h6 hk6 HS4
    go_wp2
    go_end0
    exact ⟨Hb6.out, .inl ⟨HE.out.1, rfl, HE.out.2⟩⟩
end Go.Proofs.YtppgknjpbfopjaaGreatDoor
namespace Go.Proofs.YtppgknjpbfopjaaGreatDoor
open Go.ChangeShapes Go.WideShapes Go.ChangeAt Go.RowKit
set_option linter.unusedVariables false
theorem step_ok {W : World} {k : Option Addr} {kc : Nat} {ks : List Int} (hg : VGiven W k ks) {p : Nat} {r i : Int} {v : VW} (hp : v.pre) {x y : Int} (hx : okB x y = true) {w : World} (hb : Below W.heap.size W w)
    (h : WStat W.heap.size p (.slice k ks.length kc) r i v w) (h0 : (vStep ks r (x, y) i v).2 = 0) :
    Calls Tryz.prog 229 #[.pointer (some ⟨p, 0, none⟩), .agg #[.int .i64 x, .int .i64 y]] w fun e w' => e = .returned (.tuple #[]) ∧ Below W.heap.size w w' ∧ WStat W.heap.size p (.slice k ks.length kc) r i (vStep ks r (x, y) i v).1 w' :=
  (step_any W k kc ks hg p r i v hp x y hx w hb h).mono fun e w' ⟨h1, h2⟩ => by
    rcases h2 with ⟨_, h3, h4⟩ | ⟨h3, _⟩
    · exact ⟨h3, h1, h4⟩
    · exact absurd h0 h3
theorem step_no {W : World} {k : Option Addr} {kc : Nat} {ks : List Int} (hg : VGiven W k ks) {p : Nat} {r i : Int} {v : VW} (hp : v.pre) {x y : Int} (hx : okB x y = true) {w : World} (hb : Below W.heap.size W w)
    (h : WStat W.heap.size p (.slice k ks.length kc) r i v w) (h0 : (vStep ks r (x, y) i v).2 ≠ 0) :
    Calls Tryz.prog 229 #[.pointer (some ⟨p, 0, none⟩), .agg #[.int .i64 x, .int .i64 y]] w fun e w' => e = Off i (vStep ks r (x, y) i v).2 ∧ Below W.heap.size w w' :=
  (step_any W k kc ks hg p r i v hp x y hx w hb h).mono fun e w' ⟨h1, h2⟩ => by
    rcases h2 with ⟨h3, _⟩ | ⟨_, h3⟩
    · exact absurd h3 h0
    · exact ⟨h3, h1⟩
theorem WStat.cells {B p : Nat} {K : Value} {r i : Int} {v : VW} {w : World} (h : WStat B p K r i v w) : w.cell? ⟨p, 2, none⟩ = some (.int .i64 i) ∧ w.frozen? ⟨p, 2, none⟩ = false := by
  obtain ⟨a, n, c, a', n', c', h⟩ := h
  exact ⟨h.cells.2.2.1, h.frozen 2⟩
theorem WStat.next {B p : Nat} {K : Value} {r i : Int} {v : VW} {w : World} (h : WStat B p K r i v w) (j : Int) : WStat B p K r j v (w.setCell ⟨p, 2, none⟩ (.int .i64 j)) ∧ Below B w (w.setCell ⟨p, 2, none⟩ (.int .i64 j)) := by
  obtain ⟨a, n, c, a', n', c', h⟩ := h
  obtain ⟨h1, h2⟩ := h.next j
  exact ⟨⟨a, n, c, a', n', c', h1⟩, h2.1⟩
/-- What going through code ends with. -/
def PassEnd (B p : Nat) (K : Value) (r : Int) (R : VW × Int × Nat) (w : World) (e : Ending) (w' : World) : Prop :=
  Below B w w' ∧ ((R.2.1 = 0 ∧ e = .returned (.tuple #[]) ∧ WStat B p K r R.2.2 R.1 w' ∧ R.1.pre) ∨ (R.2.1 ≠ 0 ∧ e = Off R.2.2 R.2.1))
theorem vRun_step {ks : List Int} {r : Int} {zs : List Ins} {j : Nat} (h : j < zs.length) (v : VW) : vRun ks r (zs.drop j) j v =
    if (vStep ks r ((zs.getD j (0, 0)).1, (zs.getD j (0, 0)).2) j v).2 = 0 then vRun ks r (zs.drop (j + 1)) (j + 1) (vStep ks r ((zs.getD j (0, 0)).1, (zs.getD j (0, 0)).2) j v).1 else ((vStep ks r ((zs.getD j (0, 0)).1, (zs.getD j (0, 0)).2) j v).1, (vStep ks r ((zs.getD j (0, 0)).1, (zs.getD j (0, 0)).2) j v).2, j) := by
  have e : zs.getD j (0, 0) = zs[j] := by simp [List.getD, h]
  rw [List.drop_eq_getElem_cons h, vRun, e]
set_option maxHeartbeats 1000000 in
theorem pass_any (W : World) (k : Option Addr) (kc : Nat) (ks : List Int) (hg : VGiven W k ks) (p : Nat) (r : Int) (zs : List Ins) (a : Option Addr) (c : Nat) (hn : zs.length ≤ 40) (hz : Lies W a (flat insC zs)) (hok : ∀ j, j < zs.length → okB (zs.getD j (0, 0)).1 (zs.getD j (0, 0)).2 = true)
    (w : World) (hb : Below W.heap.size W w) (h : WStat W.heap.size p (.slice k ks.length kc) r 0 ⟨[], []⟩ w) :
    Calls Tryz.prog 208 #[.pointer (some ⟨p, 0, none⟩), .slice a zs.length c] w (PassEnd W.heap.size p (.slice k ks.length kc) r (vRun ks r zs 0 ⟨[], []⟩) w) := by
  have HG := Lib.hid hg
  have HZ := Lib.hid hz
  have HO := Lib.hid hok
  have HB := Lib.hid hb
  have H := Lib.hid h
  obtain ⟨R, hR⟩ : ∃ R, vRun ks r zs 0 ⟨[], []⟩ = R := ⟨_, rfl⟩
  have HR : Hid (vRun ks r (zs.drop 0) 0 ⟨[], []⟩ = R) := Lib.hid hR
  rw [hR]
  have HPL := Lib.hid h.plt
  clear hg hz hok hb h hR
  generalize hL : zs.length = n at *
  have HL := Lib.hid hL
  clear hL
  go_enter Tryz.func208, Tryz.ntmps208
  go_wp2
  go_loopw [8] (fun i wr => ∃ (j : Nat) (v : VW), j ≤ n ∧ i = .int .i64 j ∧ Hid (vRun ks r (zs.drop j) j v = R) ∧ Hid (WStat W.heap.size p (.slice k ks.length kc) r j v wr) ∧ Hid v.pre ∧ Hid (Below W.heap.size w wr)) (fun i _ => n - (intOf i).toNat)
  case atStart => exact ⟨0, ⟨[], []⟩, Nat.zero_le _, rfl, HR, H, Lib.hid pre_start, Lib.hid (Below.refl _ _)⟩
  case round =>
    obtain ⟨j, v, hj, rfl, hr, hs, hp, hb⟩ := hrel
    by_cases hlt : j < n
    · obtain ⟨b, o, rfl, hbl, hcs⟩ := HZ.out.open (by rw [flat_len insC_len, HL.out]; omega)
      obtain ⟨c0, c1⟩ := ins_at hcs (i := j) (by rw [HL.out]; exact hlt)
      have hWb := (HB.out.trans hb.out)
      have d0 := (hWb.cell (p := ⟨b, o + j * 2, none⟩) hbl).trans c0
      have d1 := (hWb.cell (p := ⟨b, o + j * 2 + 1, none⟩) hbl).trans c1
      have hx := HO.out j hlt
      have hv := vRun_step (ks := ks) (r := r) (zs := zs) (j := j) (by rw [HL.out]; exact hlt) v
      rw [hr.out] at hv
      clear hcs c0 c1 hr
      generalize (zs.getD j (0, 0)).1 = x at *
      generalize (zs.getD j (0, 0)).2 = y at *
      have ha := hb.out.alloc hs.out.low (.cells #[.int .i64 x, .int .i64 y] 170)
      have hs2 := hs.out.bel ((Below.refl wr.heap.size wr).alloc (Nat.le_refl _) (.cells #[.int .i64 x, .int .i64 y] 170))
      have HA := Lib.hid ha
      by_cases h0 : (vStep ks r (x, y) j v).2 = 0
      · have HC := Lib.hid (step_ok HG.out hp.out hx (HB.out.trans ha) hs2 h0)
        rw [if_pos h0] at hv
        have HV := Lib.hid hv
        have HP := Lib.hid (pre_step hp.out h0)
        clear hv h0 hx ha hs2 hWb hs hb hp
        go_wp2_with fail
        refine Calls.mono HC.out ?_
        rintro e w2 ⟨rfl, hb2, hs2⟩
        have HB2 := Lib.hid (HA.out.trans hb2)
        obtain ⟨e2, f2⟩ := hs2.cells
        obtain ⟨hs3, hb3⟩ := hs2.next ((j : Int) + 1)
        have HS3 := Lib.hid (show WStat W.heap.size p (.slice k ks.length kc) r ((j + 1 : Nat) : Int) (vStep ks r (x, y) j v).1 (w2.setCell ⟨p, 2, none⟩ (.int .i64 ((j : Int) + 1))) from hs3)
        have HB3 := Lib.hid (HB2.out.trans hb3)
        clear hb2 hs2 hs3 hb3 d0 d1
        go_wp2
        go_roundw
        case rel => exact ⟨j + 1, (vStep ks r (x, y) j v).1, by omega, by go_num, Lib.hid HV.out.symm, HS3, HP, HB3⟩
        case measure => simp [intOf]; omega
      · have HC := Lib.hid (step_no HG.out hp.out hx (HB.out.trans ha) hs2 h0)
        rw [if_neg h0] at hv
        have HV := Lib.hid hv
        have H0 := Lib.hid h0
        clear hv h0 hx ha hs2 hWb hs hb hp
        go_wp2_with fail
        refine Calls.mono HC.out ?_
        rintro e w2 ⟨rfl, hb2⟩
        exact ⟨rfl, HA.out.trans hb2, .inr (by rw [HV.out]; exact ⟨H0.out, rfl⟩)⟩
    · obtain rfl : j = n := by omega
      have HV : Hid (R = (v, 0, j)) := Lib.hid (by rw [← hr.out, List.drop_eq_nil_of_le (by rw [HL.out]; exact Nat.le_refl _)]; rfl)
      clear hr
      go_wp2
      go_end0
      exact ⟨hb.out, .inl (by rw [HV.out]; exact ⟨rfl, rfl, hs.out, hp.out⟩)⟩
end Go.Proofs.YtppgknjpbfopjaaGreatDoor
namespace Go.Proofs.YtppgknjpbfopjaaGreatDoor
open Go.ChangeShapes Go.WideShapes Go.ChangeAt Go.RowKit
set_option linter.unusedVariables false
theorem finish_open (p g m c : Nat) (k : Int) (hm : m + 1 ≤ 100) (w : World) (h4 : w.cell? ⟨p, 4, none⟩ = some (.slice (some ⟨g, 0, none⟩) (m + 1) c)) (hk : w.cell? ⟨g, m * 3, none⟩ = some (.int .i64 k)) :
    Calls Tryz.prog 209 #[.pointer (some ⟨p, 0, none⟩)] w fun e w' => e = Off k 14 ∧ ∃ q, w' = w.drewN q := by
  have h1 : decide ((m : Int) + 1 > 0) = true := decide_eq_true (by omega)
  go_enter Tryz.func209, Tryz.ntmps209
  go_wp2_with fail
  refine Calls.mono (innermost_ok p g m c hm _ h4) ?_
  rintro e w' ⟨rfl, q, rfl⟩
  go_wp2
  exact ⟨rfl, rfl, q, rfl⟩
theorem finish_ok (p c c' : Nat) (a a' : Option Addr) (w : World) (h3 : w.cell? ⟨p, 3, none⟩ = some (.slice a 0 c)) (h4 : w.cell? ⟨p, 4, none⟩ = some (.slice a' 0 c')) :
    Calls Tryz.prog 209 #[.pointer (some ⟨p, 0, none⟩)] w fun e w' => e = .returned (.tuple #[]) ∧ w = w' := by
  go_enter Tryz.func209, Tryz.ntmps209
  go_wp2_with fail
  refine Calls.mono (require_ok _ _ _) ?_
  rintro e w' ⟨rfl, rfl⟩
  go_wp2
  go_end0
  exact ⟨rfl, rfl⟩
theorem finish_stack (p n c c' : Nat) (a a' : Option Addr) (i : Int) (hn : 0 < n) (w : World) (h2 : w.cell? ⟨p, 2, none⟩ = some (.int .i64 i)) (h3 : w.cell? ⟨p, 3, none⟩ = some (.slice a n c)) (h4 : w.cell? ⟨p, 4, none⟩ = some (.slice a' 0 c')) :
    Calls Tryz.prog 209 #[.pointer (some ⟨p, 0, none⟩)] w fun e w' => e = Off i 13 ∧ w = w' := by
  have h1 : ((n : Int) == 0) = false := by rw [beq_eq_false_iff_ne]; omega
  go_enter Tryz.func209, Tryz.ntmps209
  go_wp2_with fail
  refine Calls.mono (require_no _ _ i _ h2) ?_
  rintro e w' ⟨rfl, rfl⟩
  exact ⟨rfl, rfl, rfl⟩
def finC (v : VW) (i : Int) : Int × Int := match v.opn.getLast? with | some o => (o.pos, 14) | none => if v.stk = [] then (0, 0) else (i, 13)
theorem finish_any {B p : Nat} {K : Value} {r i : Int} {v : VW} {w : World} (h : WStat B p K r i v w) (hp : v.pre) :
    Calls Tryz.prog 209 #[.pointer (some ⟨p, 0, none⟩)] w fun e w' => Below B w w' ∧ (((finC v i).2 = 0 ∧ e = .returned (.tuple #[])) ∨ ((finC v i).2 ≠ 0 ∧ e = Off (finC v i).1 (finC v i).2)) := by
  obtain ⟨a, n, c, a', n', c', h⟩ := h
  obtain ⟨c0, c1, c2, c3, c4⟩ := h.cells
  have hn := h.slen
  have ho := h.olen
  obtain ⟨st, opn⟩ := v
  rcases opn_cases opn with rfl | ⟨os, o, rfl⟩
  · simp at ho
    subst ho
    by_cases hs : st = []
    · have e : finC ⟨st, []⟩ i = (0, 0) := by unfold finC; simp [hs]
      rw [e]
      subst hs
      simp at hn
      subst hn
      exact (finish_ok p c c' a a' w c3 c4).mono fun e w' ⟨he, hw⟩ => ⟨hw ▸ Below.refl B _, .inl ⟨rfl, he⟩⟩
    · have e : finC ⟨st, []⟩ i = (i, 13) := by unfold finC; simp [hs]
      rw [e]
      have : 0 < n := by
        rw [← hn]
        exact List.length_pos_iff.2 hs
      exact (finish_stack p n c c' a a' i this w c2 c3 c4).mono fun e w' ⟨he, hw⟩ => ⟨hw ▸ Below.refl B _, .inr ⟨by simp, he⟩⟩
  · have e : finC ⟨st, os ++ [o]⟩ i = (o.pos, 14) := by unfold finC; simp
    rw [e]
    have h' := h
    rw [List.map_append, List.map_singleton] at h'
    obtain ⟨g, m, rfl, rfl, hm, hc⟩ := h'.opened_row
    have h4 := hp.o4
    simp at h4 hm
    exact (finish_open p g m c' o.pos (by omega) w c4 h'.last.1).mono fun e w' ⟨he, q, hw⟩ => ⟨hw ▸ bel_dn (Below.refl B w) q, .inr ⟨by simp, he⟩⟩
theorem run_assert_yes {P : Program} {t xT : TypeId} {fs : Array Field} (hu : P.underlying t = some (.struct fs)) (v : Value) (w : World) : (Instr.typeAssert (.iface t v) xT t true).run P w = .ok (.tuple #[v, .bool true]) w := by
  simp [Instr.typeAssert, run_underlying hu, go_sem, Result.andThen]
theorem run_assert_nil {P : Program} {t xT : TypeId} {fs : Array Field} {z : Value} (hu : P.underlying t = some (.struct fs)) (hz : (P.info? t).map (·.zero) = some (some z)) (w : World) : (Instr.typeAssert .nilIface xT t true).run P w = .ok (.tuple #[z, .bool false]) w := by
  obtain ⟨j, hj, hz'⟩ := Option.map_eq_some_iff.1 hz
  simp [Instr.typeAssert, run_underlying hu, zeroValue, typeInfo, hj, hz', go_sem, Result.andThen]
theorem as_yes (v : Value) (w : World) : (Instr.typeAssert (.iface 208 v) 20 208 true).run Tryz.prog w = .ok (.tuple #[v, .bool true]) w := run_assert_yes Tryz.underlying208 v w
theorem as_nil (w : World) : (Instr.typeAssert .nilIface 20 208 true).run Tryz.prog w = .ok (.tuple #[.agg #[.int .i64 0, .int .i64 0], .bool false]) w := run_assert_nil Tryz.underlying208 (by kernel_rfl) w
abbrev offO (i c : Int) : Obj := .cells #[.int .i64 i, .int .i64 c] 208
theorem catch_panicking (p : Nat) (i c x y : Int) (older : List PanicEntry) (w : World) (h : w.heap[p]? = some (offO x y)) :
    CallsD Tryz.prog 207 #[.pointer (some ⟨p, 0, none⟩)] (.panicking ({ v := .iface 208 (.agg #[.int .i64 i, .int .i64 c]), recovered := false } :: older)) w fun e u' w' =>
      e = .returned (.tuple #[]) ∧ u' = .panicking ({ v := .iface 208 (.agg #[.int .i64 i, .int .i64 c]), recovered := true } :: older) ∧ w' = ((w.alloc (offO i c)).setCell ⟨p, 0, none⟩ (.int .i64 i)).setCell ⟨p, 1, none⟩ (.int .i64 c) := by
  have hA := alloc_at h (offO i c)
  have hc : (w.alloc (offO i c)).cell? ⟨p, 0, none⟩ = some (.int .i64 x) := cell_of_row _ _ 0 _ _ _ hA
  have hc1 : (w.alloc (offO i c)).cell? ⟨p, 1, none⟩ = some (.int .i64 y) := cell_of_row _ _ 1 _ _ _ hA
  have hz : (w.alloc (offO i c)).frozen? ⟨p, 0, none⟩ = false := frozen_of_row _ _ 0 _ _ hA
  have hz1 : (w.alloc (offO i c)).frozen? ⟨p, 1, none⟩ = false := frozen_of_row _ _ 1 _ _ hA
  refine callsD_of_wpS Tryz.func207 rfl fun c₀ cs hu => ?_
  apply wpS_seq
  apply wpS_region
  simp [wpOpsS, go_sem, recoverD, hu, Tryz.ntmps207, Exit.thenS, as_yes]
  apply wpS_seq
  apply wpS_region
  simp [wpOpsS, go_sem, Exit.thenS]
  refine wpS_cond (t := true) (by simp [Act.eval, Array.replicate]) ?_
  simp only [if_true]
  apply wpS_region
  simp [wpOpsS, go_sem, hc, hc1, hz, hz1, bodyPostS, results, Tryz.results207]
theorem catch_idle (p : Nat) (w : World) :
    CallsD Tryz.prog 207 #[.pointer (some ⟨p, 0, none⟩)] .returning w fun e u' w' => e = .returned (.tuple #[]) ∧ u' = .returning ∧ w' = w.alloc (offO 0 0) := by
  refine callsD_of_wpS Tryz.func207 rfl fun c₀ cs hu => ?_
  apply wpS_seq
  apply wpS_region
  simp [wpOpsS, go_sem, recoverD, hu, Tryz.ntmps207, Exit.thenS, as_nil]
  apply wpS_seq
  apply wpS_region
  simp [wpOpsS, go_sem, Exit.thenS]
  refine wpS_cond (t := false) (by simp [Act.eval, Array.replicate]) ?_
  simp only [Bool.false_eq_true, if_false]
  refine wpS_of_wp (wp_skip ?_)
  cases c₀
  simp_all [bodyPostS, results, Tryz.results207]
end Go.Proofs.YtppgknjpbfopjaaGreatDoor
namespace Go.Proofs.YtppgknjpbfopjaaGreatDoor
open Go.ChangeShapes Go.WideShapes Go.ChangeAt Go.RowKit
set_option linter.unusedVariables false
theorem vRun_end {ks : List Int} {r : Int} : ∀ (zs : List Ins) (i : Nat) (v : VW), (vRun ks r zs i v).2.1 = 0 → (vRun ks r zs i v).2.2 = i + zs.length
  | [], i, v, _ => rfl
  | x :: t, i, v, h => by
    rw [vRun] at h ⊢
    by_cases g : (vStep ks r x i v).2 = 0
    · rw [if_pos g] at h ⊢
      rw [vRun_end t (i + 1) _ h, List.length_cons]
      omega
    · rw [if_neg g] at h
      exact absurd h g
theorem vVer_pass {ks : List Int} {r : Int} {zs : List Ins} (h : (vRun ks r zs 0 ⟨[], []⟩).2.1 ≠ 0) : vVer zs ks r = ((((vRun ks r zs 0 ⟨[], []⟩).2.2 : Nat) : Int), (vRun ks r zs 0 ⟨[], []⟩).2.1) := by
  unfold vVer
  exact if_pos h
theorem vVer_fin {ks : List Int} {r : Int} {zs : List Ins} (h : (vRun ks r zs 0 ⟨[], []⟩).2.1 = 0) : vVer zs ks r = finC (vRun ks r zs 0 ⟨[], []⟩).1 zs.length := by
  unfold vVer finC
  dsimp only
  rw [if_neg (fun q => q h)]
  cases (vRun ks r zs 0 ⟨[], []⟩).1.opn.getLast? <;> rfl
theorem finC_zero {v : VW} {i : Int} (h : (finC v i).2 = 0) : finC v i = (0, 0) := by
  unfold finC at *
  cases hg : v.opn.getLast? with
  | some o => rw [hg] at h; exact absurd h (by simp)
  | none =>
    rw [hg] at h
    simp only at h ⊢
    split
    · rfl
    · rename_i hs
      rw [if_neg hs] at h
      exact absurd h (by simp)
theorem off_set {w : World} {p : Nat} {x y : Int} (h : w.heap[p]? = some (offO x y)) (i c : Int) : ((w.setCell ⟨p, 0, none⟩ (.int .i64 i)).setCell ⟨p, 1, none⟩ (.int .i64 c)).heap[p]? = some (offO i c) := by
  simpa using wk_set (wk_set h 0 (.int .i64 i)) 1 (.int .i64 c)
theorem ret_off {a b c d : Int} (h : a = c) (g : b = d) : Ending.returned (.agg #[.int .i64 a, .int .i64 b]) = .returned (.agg #[.int .i64 c, .int .i64 d]) := by rw [h, g]
set_option maxHeartbeats 1000000 in
theorem verify_any (k : Option Addr) (kc : Nat) (ks : List Int) (r : Int) (zs : List Ins) (a : Option Addr) (c : Nat) (hn : zs.length ≤ 40) (hok : ∀ j, j < zs.length → okB (zs.getD j (0, 0)).1 (zs.getD j (0, 0)).2 = true)
    (w : World) (hg : VGiven w k ks) (hz : Lies w a (flat insC zs)) :
    Calls Tryz.prog 181 #[.slice a zs.length c, .slice k ks.length kc, .int .i64 r] w fun e w' => e = .returned (.agg #[.int .i64 (vVer zs ks r).1, .int .i64 (vVer zs ks r).2]) ∧ Below w.heap.size w w' := by
  have hmf : ∀ (fn : Fn) (first cap : Array Value) (w : World), (Instr.makeFunc fn first cap).run Tryz.prog w = .ok (.func fn first cap) w := fun _ _ _ _ => rfl
  have b1 : Below w.heap.size w (w.alloc (offO 0 1)) := (Below.refl w.heap.size w).alloc (Nat.le_refl _) _
  have hg1 := hg.at b1
  have hz1 := hz.below b1 (Nat.le_refl _)
  have hst : WStat (w.alloc (offO 0 1)).heap.size (w.heap.size + 1) (.slice k ks.length kc) r 0 ⟨[], []⟩ ((w.alloc (offO 0 1)).alloc (wkO (.slice k ks.length kc) r 0 none 0 0 none 0 0)) :=
    ⟨none, 0, 0, none, 0, 0, by simp, heap_alloc2_new w _ _, World.ownsRow_nil _ _ _ _, World.ownsRow_nil _ _ _ _⟩
  have b2 : Below (w.alloc (offO 0 1)).heap.size (w.alloc (offO 0 1)) ((w.alloc (offO 0 1)).alloc (wkO (.slice k ks.length kc) r 0 none 0 0 none 0 0)) := (Below.refl _ _).alloc (Nat.le_refl _) _
  have HP := Lib.hid (pass_any _ k kc ks hg1 (w.heap.size + 1) r zs a c hn hz1 hok _ b2 hst)
  have HB1 := Lib.hid b1
  have HB2 := Lib.hid b2
  have HF := Lib.hid (box_new w (offO 0 1))
  obtain ⟨V, hV⟩ : ∃ V, vVer zs ks r = V := ⟨_, rfl⟩
  have HV := Lib.hid hV
  have HE := Lib.hid (vRun_end (ks := ks) (r := r) zs 0 ⟨[], []⟩)
  have HVP := Lib.hid (fun h => vVer_pass (ks := ks) (r := r) (zs := zs) h)
  have HVF := Lib.hid (fun h => vVer_fin (ks := ks) (r := r) (zs := zs) h)
  rw [hV]
  clear hg hz hok b1 b2 hg1 hz1 hst hV
  generalize zs.length = n at *
  go_enter_defers Tryz.func181, Tryz.ntmps181
  go_wp2_with fail
  refine Calls.mono HP.out ?_
  rintro e w3 ⟨hb3, h3⟩
  have HB3 := Lib.hid hb3
  have hf3 := (hb3.block w.heap.size (by simp)).trans (alloc_at HF.out (wkO (.slice k ks.length kc) r 0 none 0 0 none 0 0))
  have HF3 := Lib.hid hf3
  have HB := Lib.hid (HB1.out.trans ((HB2.out.trans hb3).mono (by simp)))
  clear hb3 hf3 HF HP HB3
  rcases h3 with ⟨h0, rfl, hs3, hp3⟩ | ⟨h0, rfl⟩
  case inr =>
    have HX := Lib.hid ((HV.out.symm.trans (HVP.out h0)))
    clear h0 HVP HVF HE
    generalize (((vRun ks r zs 0 ⟨[], []⟩).2.2 : Nat) : Int) = i at *
    generalize (vRun ks r zs 0 ⟨[], []⟩).2.1 = d at *
    refine leaves_cons (f := 207) (args := #[.pointer (some ⟨w.heap.size, 0, none⟩)]) (by simp) (by simp [go_sem]) ?_
    refine CallsD.mono (catch_panicking w.heap.size i d 0 1 [] w3 HF3.out) ?_
    rintro e u' w'' ⟨rfl, rfl, rfl⟩
    have hX := off_set (alloc_at HF3.out (offO i d)) i d
    have hc0 := cell_of_row _ _ 0 _ _ _ hX
    have hc1 := cell_of_row _ _ 1 _ _ _ hX
    refine ⟨.agg #[.int .i64 i, .int .i64 d], by simp [results, Tryz.results181, go_sem, hc0, hc1], ret_off (by rw [HX.out]) (by rw [HX.out]), ?_⟩
    exact ((HB.out.alloc HB.out.size _).setCell (p := ⟨w.heap.size, 0, none⟩) (Nat.le_refl _) _).setCell (p := ⟨w.heap.size, 1, none⟩) (Nat.le_refl _) _
  have HX := Lib.hid (HV.out.symm.trans (HVF.out h0))
  have he := HE.out h0
  rw [Nat.zero_add] at he
  rw [he] at hs3
  have HF := Lib.hid (finish_any hs3 hp3)
  clear h0 HVP HVF HE he hs3 hp3
  go_wp2_with fail
  refine Calls.mono HF.out ?_
  rintro e w4 ⟨hb4, h4⟩
  have HF4 := Lib.hid ((hb4.block w.heap.size (by simp)).trans HF3.out)
  have HB := Lib.hid (HB.out.trans (hb4.mono (by simp)))
  clear hb4 HF
  rcases h4 with ⟨h0, rfl⟩ | ⟨h0, rfl⟩
  case inr =>
    generalize finC (vRun ks r zs 0 ⟨[], []⟩).1 n = F at *
    obtain ⟨i, d⟩ := F
    dsimp only at *
    refine leaves_cons (f := 207) (args := #[.pointer (some ⟨w.heap.size, 0, none⟩)]) (by simp) (by simp [go_sem]) ?_
    refine CallsD.mono (catch_panicking w.heap.size i d 0 1 [] w4 HF4.out) ?_
    rintro e u' w'' ⟨rfl, rfl, rfl⟩
    have hX := off_set (alloc_at HF4.out (offO i d)) i d
    have hc0 := cell_of_row _ _ 0 _ _ _ hX
    have hc1 := cell_of_row _ _ 1 _ _ _ hX
    refine ⟨.agg #[.int .i64 i, .int .i64 d], by simp [results, Tryz.results181, go_sem, hc0, hc1], ret_off (by rw [HX.out]) (by rw [HX.out]), ?_⟩
    exact ((HB.out.alloc HB.out.size _).setCell (p := ⟨w.heap.size, 0, none⟩) (Nat.le_refl _) _).setCell (p := ⟨w.heap.size, 1, none⟩) (Nat.le_refl _) _
  have HX := Lib.hid (HX.out.trans (finC_zero h0))
  have g0 : w4.cell? ⟨w.heap.size, 0, none⟩ = some (.int .i64 0) := cell_of_row _ _ 0 _ _ _ HF4.out
  have g1 : w4.cell? ⟨w.heap.size, 1, none⟩ = some (.int .i64 1) := cell_of_row _ _ 1 _ _ _ HF4.out
  have q0 : w4.frozen? ⟨w.heap.size, 0, none⟩ = false := frozen_of_row _ _ 0 _ _ HF4.out
  have q1 : w4.frozen? ⟨w.heap.size, 1, none⟩ = false := frozen_of_row _ _ 1 _ _ HF4.out
  clear h0
  go_wp2
  refine leaves_cons (f := 207) (args := #[.pointer (some ⟨w.heap.size, 0, none⟩)]) (by simp) (by simp [go_sem]) ?_
  refine CallsD.mono (catch_idle w.heap.size _) ?_
  rintro e u' w'' ⟨rfl, rfl, rfl⟩
  have hX := alloc_at (off_set HF4.out 0 0) (offO 0 0)
  have hc0 := cell_of_row _ _ 0 _ _ _ hX
  have hc1 := cell_of_row _ _ 1 _ _ _ hX
  refine ⟨.agg #[.int .i64 0, .int .i64 0], by simp [results, Tryz.results181, go_sem, hc0, hc1], ret_off (by rw [HX.out]) (by rw [HX.out]), ?_⟩
  have hb := ((HB.out.setCell (p := ⟨w.heap.size, 0, none⟩) (Nat.le_refl _) (.int .i64 0)).setCell (p := ⟨w.heap.size, 1, none⟩) (Nat.le_refl _) (.int .i64 0))
  exact hb.alloc hb.size _
end Go.Proofs.YtppgknjpbfopjaaGreatDoor
