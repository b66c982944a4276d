/- A walk of impl's verifier: the table of effects, what a walk's memory holds, its small methods. -/
import Derived.Test.YtmpppfibeoghaaaGreatDoorRows
import Derived.Test.YtmpppfibeoghaaaGreatDoorCardKit
import Derived.Test.YtmpppfibeoghaaaGreatDoorRow
import Derived.Test.YtmpppfibeoghaaaGreatDoorOwn
import Derived.Test.YtmpppfibeoghaaaGreatDoorFb
import Derived.Test.YtmpppfibeoghaaaGreatDoorRouts
import Derived.WalkLawsBesides
import Derived.WalkSmall
import Derived.WalkSpells
import Derived.Lib.OwnKind
import Derived.Lib.AppendStr
import Derived.Deep.RegionWith
import Derived.IntWalk
import Derived.RegionDies
namespace Go.Proofs.YtmpppfibeoghaaaGreatDoor
open Go.ChangeShapes Go.WideShapes Go.ChangeAt Go.RowKit
set_option linter.unusedVariables false
/-- A row of a table: two words. -/
def rowD2 {H : Type} (r : ByteArray × ByteArray) : DataW H := .agg [.lit (.string r.1.data.toList), .lit (.string r.2.data.toList)]
theorem win_at2 {cs : List Value} {a j : Nat} {v : Value} (hj : j < 2) (h : ((List.take 2 (List.drop a cs)).drop j).take 1 = [v]) : cs[a + j]? = some v := by
  have := congrArg (·[0]?) h
  simpa [List.getElem?_take, List.getElem?_drop, hj] using this
theorem cells_of_rows2 {H : Type} {enc : TypeId × Value → H} {P : Program} {w : World} {base : Nat} {sp : Nat → Bool} {held : Bool} {fuel : Nat} {t e : TypeId} {n : Nat} {cs : List Value} {rows : List (ByteArray × ByteArray)} {p : List MemPlace} {f0 f1 : Field}
    (ht : P.underlying t = some (.array n e)) (he : P.underlying e = some (.struct #[f0, f1])) (hce : P.cellsOf e = 2)
    (h0 : P.underlying f0.type = some .string) (h1 : P.underlying f1.type = some .string) (o : f0.offset = 0 ∧ f1.offset = 1) (c : P.cellsOf f0.type = 1 ∧ P.cellsOf f1.type = 1)
    (h : DataW.trod enc P w base sp held fuel t cs = some (.agg (rows.map rowD2), p)) (i : Nat) (r : ByteArray × ByteArray) (hr : rows[i]? = some r) :
    cs[i * 2]? = some (.string r.1) ∧ cs[i * 2 + 1]? = some (.string r.2) := by
  obtain ⟨xs, m, rfl, hx, hcl, hxl, hi⟩ := DataW.trod_array ht h
  have hxs : xs.map (·.1) = rows.map (rowD2 (H := H)) := by
    have := congrArg Prod.fst hx
    simpa using this.symm
  have hil : i < rows.length := (List.getElem?_eq_some_iff.1 hr).1
  have hln : rows.length = n := by
    have := congrArg List.length hxs
    simp at this
    omega
  have hw := hi i (by omega)
  rw [hce, List.getElem?_eq_getElem (by omega)] at hw
  have hy : (xs[i]'(by omega)).1 = rowD2 r := by
    have := congrArg (·[i]?) hxs
    simpa [List.getElem?_map, hr, List.getElem?_eq_getElem (show i < xs.length by omega)] using this
  obtain ⟨y0, y1, q, hyy, _, g0, g1⟩ := trod_struct2 he hw
  rw [hyy] at hy
  simp only [rowD2, DataW.agg.injEq, List.cons.injEq, and_true] at hy
  obtain ⟨a0, a1⟩ := hy
  rw [o.1, c.1] at g0
  rw [o.2, c.2] at g1
  obtain ⟨s, e0, rfl, _⟩ := DataW.trod_string h0 g0
  obtain ⟨s1, e1, rfl, _⟩ := DataW.trod_string h1 g1
  simp only [DataW.lit.injEq, Lit.string.injEq] at a0 a1
  obtain rfl := str_eq a0
  obtain rfl := str_eq a1
  exact ⟨win_at2 (a := i * 2) (j := 0) (by omega) e0, win_at2 (a := i * 2) (j := 1) (by omega) e1⟩
theorem rows2_of_head {P : Program} {W : World} {name : String} {rows : List (ByteArray × ByteArray)} {rest : List (String × DataW Unit)} {g : Nat} {t e : TypeId} {n : Nat} {f0 f1 : Field}
    (hg : P.globalNamed name = some g) (hty : (P.globals[g]?).map (·.type) = some t) (ht : P.underlying t = some (.array n e)) (he : P.underlying e = some (.struct #[f0, f1])) (hce : P.cellsOf e = 2)
    (h0 : P.underlying f0.type = some .string) (h1 : P.underlying f1.type = some .string) (o : f0.offset = 0 ∧ f1.offset = 1) (c : P.cellsOf f0.type = 1 ∧ P.cellsOf f1.type = 1)
    (h : laidMet P ((name, .agg (rows.map rowD2)) :: rest) W) (i : Nat) (r : ByteArray × ByteArray) (hr : rows[i]? = some r) :
    W.cell? ⟨g, i * 2, none⟩ = some (.string r.1) ∧ W.cell? ⟨g, i * 2 + 1, none⟩ = some (.string r.2) := by
  obtain ⟨ps, ⟨g', t', cs, fuel, p, q, hg', ht', hvar, hd, _, _⟩, _⟩ := h
  obtain rfl := Option.some.inj (hg.symm.trans hg')
  obtain rfl := Option.some.inj (hty.symm.trans ht')
  have := cells_of_rows2 ht he hce h0 h1 o c hd i r hr
  simp only [World.var?_cell hg hvar]
  simpa using this
def effRows : List (ByteArray × ByteArray) := [(⟨#[]⟩, ⟨#[]⟩), (⟨#[]⟩, ⟨#[105]⟩), (⟨#[]⟩, ⟨#[98]⟩), (⟨#[]⟩, ⟨#[105]⟩), (⟨#[105]⟩, ⟨#[]⟩), (⟨#[]⟩, ⟨#[98]⟩), (⟨#[98]⟩, ⟨#[]⟩), (⟨#[]⟩, ⟨#[98]⟩), (⟨#[98]⟩, ⟨#[]⟩), (⟨#[105, 105]⟩, ⟨#[105]⟩), (⟨#[105, 105]⟩, ⟨#[105]⟩), (⟨#[105, 105]⟩, ⟨#[105]⟩), (⟨#[105, 105]⟩, ⟨#[105]⟩), (⟨#[105, 105]⟩, ⟨#[98]⟩), (⟨#[105, 105]⟩, ⟨#[98]⟩), (⟨#[98, 98]⟩, ⟨#[98]⟩), (⟨#[98, 98]⟩, ⟨#[98]⟩), (⟨#[98]⟩, ⟨#[98]⟩), (⟨#[98, 105, 105]⟩, ⟨#[105]⟩), (⟨#[]⟩, ⟨#[98]⟩), (⟨#[]⟩, ⟨#[105]⟩), (⟨#[98]⟩, ⟨#[]⟩), (⟨#[]⟩, ⟨#[]⟩), (⟨#[]⟩, ⟨#[]⟩), (⟨#[]⟩, ⟨#[]⟩), (⟨#[]⟩, ⟨#[]⟩), (⟨#[]⟩, ⟨#[]⟩)]
def effT (k : Nat) : ByteArray := (effRows.getD k (⟨#[]⟩, ⟨#[]⟩)).1
def effG (k : Nat) : ByteArray := (effRows.getD k (⟨#[]⟩, ⟨#[]⟩)).2
/-- The table of the effects, as it lies in memory. -/
def EffTab (w : World) : Prop := ∀ k, k < 27 → w.cell? ⟨3, k * 2, none⟩ = some (.string (effT k)) ∧ w.cell? ⟨3, k * 2 + 1, none⟩ = some (.string (effG k))
theorem EffTab.lt {w : World} (h : EffTab w) : 3 < w.heap.size := by
  have hc := (h 0 (by omega)).1
  rcases Nat.lt_or_ge 3 w.heap.size with h' | h'
  · exact h'
  · simp [World.cell?, Array.getElem?_eq_none h'] at hc
theorem EffTab.below {B : Nat} {w w' : World} (h : EffTab w) (g : Below B w w') (hB : w.heap.size ≤ B) : EffTab w' := fun k hk => by
  have hlt : 3 < B := Nat.lt_of_lt_of_le h.lt hB
  obtain ⟨c0, c1⟩ := h k hk
  exact ⟨(g.cell (p := ⟨3, k * 2, none⟩) hlt).trans c0, (g.cell (p := ⟨3, k * 2 + 1, none⟩) hlt).trans c1⟩
theorem gEff : Tryz.prog.globalNamed "loop.example/g00684/impl.effects" = some 3 := by kernel_rfl
theorem tEff : (Tryz.prog.globals[3]?).map (·.type) = some 247 := by kernel_rfl
theorem cEff : Tryz.prog.cellsOf 243 = 2 := by kernel_rfl
theorem cEffS : Tryz.prog.cellsOf 9 = 1 := by kernel_rfl
theorem effTab_of {W : World} (h : laidMetH Tryz.prog [("loop.example/g00684/impl.effects", Rows.laid_loop_example_g00684_impl_effects)] W) : EffTab W := by
  have h' : laidMet Tryz.prog (("loop.example/g00684/impl.effects", .agg (effRows.map rowD2)) :: []) W := h
  intro k hk
  have hl : k < effRows.length := hk
  have := rows2_of_head gEff tEff Tryz.underlying247 Tryz.underlying243 cEff Tryz.underlying9 Tryz.underlying9 ⟨rfl, rfl⟩ ⟨cEffS, cEffS⟩ h' k effRows[k] (List.getElem?_eq_getElem hl)
  simpa [effT, effG, List.getD, hl] using this
/-- An open structure, as impl keeps it. -/
abbrev SO := Int × Int × Bool
def soC (z : SO) : List Value := [.int .i64 z.1, .int .i64 z.2.1, .bool z.2.2]
theorem soC_len (z : SO) : (soC z).length = 3 := rfl
abbrev wkO (K : Value) (r i : Int) (a : Option Addr) (n c : Nat) (a' : Option Addr) (n' c' : Nat) : Obj := .cells #[K, .int .i64 r, .int .i64 i, .slice a n c, .slice a' n' c'] 200
/-- The memory of a walk: its block, its stack, what is open. -/
structure WAt (B p : Nat) (K : Value) (r i : Int) (a : Option Addr) (n c : Nat) (a' : Option Addr) (n' c' : Nat) (stk : List UInt8) (opn : List SO) (w : World) : Prop where
  base : B ≤ p
  blk : w.heap[p]? = some (wkO K r i a n c a' n' c')
  stack : w.ownsRow B 5 1 (.slice a n c) n (u8s stk)
  opens : w.ownsRow B 223 3 (.slice a' n' c') n' (flat soC opn)
theorem WAt.slen {B p : Nat} {K : Value} {r i : Int} {a : Option Addr} {n c : Nat} {a' : Option Addr} {n' c' : Nat} {stk : List UInt8} {opn : List SO} {w : World} (h : WAt B p K r i a n c a' n' c' stk opn w) : stk.length = n := by
  have := h.stack.1
  rw [u8s_len] at this
  omega
theorem WAt.olen {B p : Nat} {K : Value} {r i : Int} {a : Option Addr} {n c : Nat} {a' : Option Addr} {n' c' : Nat} {stk : List UInt8} {opn : List SO} {w : World} (h : WAt B p K r i a n c a' n' c' stk opn w) : opn.length = n' := by
  have := h.opens.1
  rw [flat_len soC_len] at this
  omega
theorem WAt.plt {B p : Nat} {K : Value} {r i : Int} {a : Option Addr} {n c : Nat} {a' : Option Addr} {n' c' : Nat} {stk : List UInt8} {opn : List SO} {w : World} (h : WAt B p K r i a n c a' n' c' stk opn w) : p < w.heap.size :=
  (Array.getElem?_eq_some_iff.1 h.blk).1
theorem WAt.cells {B p : Nat} {K : Value} {r i : Int} {a : Option Addr} {n c : Nat} {a' : Option Addr} {n' c' : Nat} {stk : List UInt8} {opn : List SO} {w : World} (h : WAt B p K r i a n c a' n' c' stk opn w) :
    w.cell? ⟨p, 0, none⟩ = some K ∧ w.cell? ⟨p, 1, none⟩ = some (.int .i64 r) ∧ w.cell? ⟨p, 2, none⟩ = some (.int .i64 i) ∧ w.cell? ⟨p, 3, none⟩ = some (.slice a n c) ∧ w.cell? ⟨p, 4, none⟩ = some (.slice a' n' c') :=
  ⟨cell_of_row _ _ 0 _ _ _ h.blk, cell_of_row _ _ 1 _ _ _ h.blk, cell_of_row _ _ 2 _ _ _ h.blk, cell_of_row _ _ 3 _ _ _ h.blk, cell_of_row _ _ 4 _ _ _ h.blk⟩
theorem WAt.frozen {B p : Nat} {K : Value} {r i : Int} {a : Option Addr} {n c : Nat} {a' : Option Addr} {n' c' : Nat} {stk : List UInt8} {opn : List SO} {w : World} (h : WAt B p K r i a n c a' n' c' stk opn w) (k : Nat) : w.frozen? ⟨p, k, none⟩ = false :=
  frozen_of_row _ _ k _ _ h.blk
/-- What a refused step ends with. -/
abbrev Off (i c : Int) : Ending := .panicked [{ v := .iface 166 (.agg #[.int .i64 i, .int .i64 c]), recovered := false }]
theorem require_ok (p : Nat) (c : Int) (w : World) : Calls Tryz.prog 191 #[.pointer (some ⟨p, 0, none⟩), .bool true, .int .i64 c] w fun e w' => e = .returned (.tuple #[]) ∧ w = w' := by
  go_enter Tryz.func191, Tryz.ntmps191
  go_wp2
  go_end0
  exact ⟨rfl, rfl⟩
theorem require_no (p : Nat) (c i : Int) (w : World) (h : w.cell? ⟨p, 2, none⟩ = some (.int .i64 i)) : Calls Tryz.prog 191 #[.pointer (some ⟨p, 0, none⟩), .bool false, .int .i64 c] w fun e w' => e = Off i c ∧ w = w' := by
  go_enter Tryz.func191, Tryz.ntmps191
  go_wp2
  exact ⟨rfl, rfl, rfl⟩
end Go.Proofs.YtmpppfibeoghaaaGreatDoor
namespace Go.Proofs.YtmpppfibeoghaaaGreatDoor
open Go.ChangeShapes Go.WideShapes Go.ChangeAt Go.RowKit
set_option linter.unusedVariables false
theorem innermost_ok (p g m c : Nat) (hm : m + 1 ≤ 100) (w : World) (h : w.cell? ⟨p, 4, none⟩ = some (.slice (some ⟨g, 0, none⟩) (m + 1) c)) :
    Calls Tryz.prog 190 #[.pointer (some ⟨p, 0, none⟩)] w fun e w' => e = .returned (.pointer (some ⟨g, m * 3, none⟩)) ∧ ∃ q, w' = w.drewN q := by
  go_enter Tryz.func190, Tryz.ntmps190
  go_wp2_with (go_at_call 191; refine (require_ok _ _ _).mono ?_; rintro e w' ⟨rfl, rfl⟩)
  go_region
  go_wp2
  go_ret
  exact ⟨by simp, _, rfl⟩
theorem innermost_no (p c : Nat) (a : Option Addr) (i : Int) (w : World) (h : w.cell? ⟨p, 4, none⟩ = some (.slice a 0 c)) (h2 : w.cell? ⟨p, 2, none⟩ = some (.int .i64 i)) :
    Calls Tryz.prog 190 #[.pointer (some ⟨p, 0, none⟩)] w fun e w' => e = Off i 14 ∧ w = w' := by
  go_enter Tryz.func190, Tryz.ntmps190
  go_wp2_with (go_at_call 191; refine (require_no _ _ i _ h2).mono ?_; rintro e w' ⟨rfl, rfl⟩)
  exact ⟨rfl, rfl, rfl⟩
theorem floor_none (p c : Nat) (a : Option Addr) (w : World) (h : w.cell? ⟨p, 4, none⟩ = some (.slice a 0 c)) :
    Calls Tryz.prog 206 #[.pointer (some ⟨p, 0, none⟩)] w fun e w' => e = .returned (.int .i64 0) ∧ ∃ q, w' = w.drewN q := by
  go_enter Tryz.func206, Tryz.ntmps206
  go_wp2
  go_ret
  exact ⟨rfl, 0, rfl⟩
theorem floor_some (p g m c : Nat) (k : Int) (hm : m + 1 ≤ 100) (w : World) (h : w.cell? ⟨p, 4, none⟩ = some (.slice (some ⟨g, 0, none⟩) (m + 1) c)) (hk : w.cell? ⟨g, m * 3 + 1, none⟩ = some (.int .i64 k)) :
    Calls Tryz.prog 206 #[.pointer (some ⟨p, 0, none⟩)] w fun e w' => e = .returned (.int .i64 k) ∧ ∃ q, w' = w.drewN q := by
  have h1 : ((m : Int) + 1 == 0) = false := by rw [beq_eq_false_iff_ne]; omega
  go_enter Tryz.func206, Tryz.ntmps206
  go_wp2_with (go_at_call 190; refine (innermost_ok p g m c hm _ h).mono ?_; rintro e w' ⟨rfl, q, rfl⟩)
  go_ret
  exact ⟨rfl, q, rfl⟩
theorem level_ok (p g m n cs : Nat) (a : Option Addr) (w : World) (h : w.cell? ⟨p, 3, none⟩ = some (.slice a n cs)) (hk : w.cell? ⟨g, m + 1, none⟩ = some (.int .i64 n)) :
    Calls Tryz.prog 207 #[.pointer (some ⟨p, 0, none⟩), .pointer (some ⟨g, m, none⟩)] w fun e w' => e = .returned (.tuple #[]) ∧ ∃ q, w' = w.drewN q := by
  go_enter Tryz.func207, Tryz.ntmps207
  go_quiet ((go_at_call 191; exact Calls.quiet_of_same ((require_ok _ _ _).mono fun _ _ ⟨a, b⟩ => ⟨a, b.symm⟩)))
  go_wp2
  go_end0
  exact ⟨rfl, _, rfl⟩
theorem level_no (p g m n cs : Nat) (a : Option Addr) (k i : Int) (hkn : (n : Int) ≠ k) (w : World) (h : w.cell? ⟨p, 3, none⟩ = some (.slice a n cs)) (hk : w.cell? ⟨g, m + 1, none⟩ = some (.int .i64 k)) (h2 : w.cell? ⟨p, 2, none⟩ = some (.int .i64 i)) :
    Calls Tryz.prog 207 #[.pointer (some ⟨p, 0, none⟩), .pointer (some ⟨g, m, none⟩)] w fun e w' => e = Off i 13 ∧ ∃ q, w' = w.drewN q := by
  have hb : ((n : Int) == k) = false := by rw [beq_eq_false_iff_ne]; exact hkn
  clear hkn
  go_enter Tryz.func207, Tryz.ntmps207
  go_region_dies
  all_goals
    refine Calls.mono (require_no _ _ i _ (by exact h2)) ?_
    rintro e w' ⟨rfl, rfl⟩
    exact ⟨rfl, rfl, 1, rfl⟩
end Go.Proofs.YtmpppfibeoghaaaGreatDoor
namespace Go.Proofs.YtmpppfibeoghaaaGreatDoor
open Go.ChangeShapes Go.WideShapes Go.ChangeAt Go.RowKit
set_option linter.unusedVariables false
/-- What a floor's call ends with. -/
abbrev Floor (p : Nat) (f : Nat) (w : World) : Prop := Calls Tryz.prog 206 #[.pointer (some ⟨p, 0, none⟩)] w fun e w' => e = .returned (.int .i64 f) ∧ ∃ q, w' = w.drewN q
set_option maxRecDepth 100000 in
theorem pop_some (p g r c f : Nat) (t u : ByteArray) (hc : r + t.size ≤ c) (hn : r + t.size ≤ 100) (hf : f ≤ r) (w : World) (h3 : w.cell? ⟨p, 3, none⟩ = some (.slice (some ⟨g, 0, none⟩) (r + t.size) c)) (f3 : w.frozen? ⟨p, 3, none⟩ = false)
    (hfl : Floor p f w) (hcv : ∀ q cc, (convert 22 9 (.slice (some ⟨g, r, none⟩) t.size cc)).run Tryz.prog (w.drewN q) = .ok (.string u) (w.drewN q))
    (hcz : r = c → ∀ q cc, (convert 22 9 (.slice (some ⟨g, 0, none⟩) t.size cc)).run Tryz.prog (w.drewN q) = .ok (.string u) (w.drewN q)) (hut : (u.toList == t.toList) = true) :
    Calls Tryz.prog 201 #[.pointer (some ⟨p, 0, none⟩), .string t] w fun e w' => e = .returned (.tuple #[]) ∧ ∃ q, w' = (w.drewN q).setCell ⟨p, 3, none⟩ (.slice (some ⟨g, 0, none⟩) r c) := by
  have HFL := Lib.hid hfl
  clear hfl
  by_cases hr : r = c
  · have hz := hcz hr
    have ht : t.size = 0 := by omega
    rw [ht] at hz h3
    rw [ht, Nat.add_zero] at hc
    rw [Nat.add_zero] at h3
    have hs : ((r : Int) - (t.size : Int)) = r := by omega
    have hn2 : r ≤ 100 := by omega
    subst hr
    clear hcz hcv hn hc
    go_enter Tryz.func201, Tryz.ntmps201
    go_wp2_with fail
    refine Calls.mono HFL.out ?_
    rintro e w' ⟨rfl, q, rfl⟩
    go_wp2_with (go_at_call 191; (with_reducible refine (require_ok _ _ _).mono ?_); rintro e w' ⟨rfl, rfl⟩)
    all_goals
      go_end0
      exact ⟨rfl, _, rfl⟩
  · clear hcz
    go_enter Tryz.func201, Tryz.ntmps201
    go_wp2_with fail
    refine Calls.mono HFL.out ?_
    rintro e w' ⟨rfl, q, rfl⟩
    go_wp2_with (go_at_call 191; (with_reducible refine (require_ok _ _ _).mono ?_); rintro e w' ⟨rfl, rfl⟩)
    all_goals
      go_end0
      exact ⟨rfl, _, rfl⟩
/-- The top is of other types. -/
theorem pop_type (p g r c f : Nat) (i : Int) (t u : ByteArray) (hc : r + t.size ≤ c) (hn : r + t.size ≤ 100) (hz : 0 < t.size) (hf : f ≤ r) (w : World) (h3 : w.cell? ⟨p, 3, none⟩ = some (.slice (some ⟨g, 0, none⟩) (r + t.size) c)) (h2 : ∀ q, (w.drewN q).cell? ⟨p, 2, none⟩ = some (.int .i64 i))
    (hfl : Floor p f w) (hcv : ∀ q cc, (convert 22 9 (.slice (some ⟨g, r, none⟩) t.size cc)).run Tryz.prog (w.drewN q) = .ok (.string u) (w.drewN q)) (hut : (u.toList == t.toList) = false) :
    Calls Tryz.prog 201 #[.pointer (some ⟨p, 0, none⟩), .string t] w fun e w' => e = Off i 12 ∧ ∃ q, w' = w.drewN q := by
  have HFL := Lib.hid hfl
  have H2 := Lib.hid h2
  have hr : ¬ c = r := by omega
  have hr2 : ¬ r = c := by omega
  clear hfl h2
  go_enter Tryz.func201, Tryz.ntmps201
  go_wp2_with fail
  refine Calls.mono HFL.out ?_
  rintro e w' ⟨rfl, q, rfl⟩
  go_wp2_with (go_at_call 191; (with_reducible refine (require_ok _ _ _).mono ?_); rintro e w' ⟨rfl, rfl⟩)
  refine Calls.mono (require_no _ _ i _ (H2.out _)) ?_
  rintro e w' ⟨rfl, rfl⟩
  exact ⟨rfl, rfl, _, rfl⟩
/-- Too few elements. -/
theorem pop_short (p n c f : Nat) (a : Option Addr) (i : Int) (t : ByteArray) (hn : n ≤ 100) (ht : t.size ≤ 100) (hf : n < f + t.size) (w : World) (h3 : w.cell? ⟨p, 3, none⟩ = some (.slice a n c)) (h2 : ∀ q, (w.drewN q).cell? ⟨p, 2, none⟩ = some (.int .i64 i))
    (hfl : Floor p f w) : Calls Tryz.prog 201 #[.pointer (some ⟨p, 0, none⟩), .string t] w fun e w' => e = Off i 13 ∧ ∃ q, w' = w.drewN q := by
  have HFL := Lib.hid hfl
  have H2 := Lib.hid h2
  have hd : decide ((f : Int) ≤ (n : Int) - t.size) = false := decide_eq_false (by omega)
  have hd2 : ¬ ((f : Int) ≤ (n : Int) - t.size) := by omega
  clear hfl h2
  go_enter Tryz.func201, Tryz.ntmps201
  go_wp2_with fail
  refine Calls.mono HFL.out ?_
  rintro e w' ⟨rfl, q, rfl⟩
  go_wp2_with fail
  refine Calls.mono (require_no _ _ i _ (H2.out _)) ?_
  rintro e w' ⟨rfl, rfl⟩
  exact ⟨rfl, rfl, _, rfl⟩
/-- Nothing of nothing. -/
theorem pop_nil (p : Nat) (t : ByteArray) (ht : t.size = 0) (w : World) (h3 : w.cell? ⟨p, 3, none⟩ = some (.slice none 0 0)) (f3 : w.frozen? ⟨p, 3, none⟩ = false)
    (hfl : Floor p 0 w) (hcv : ∀ q, (convert 22 9 (.slice none 0 0)).run Tryz.prog (w.drewN q) = .ok (.string ⟨#[]⟩) (w.drewN q)) (hut : t.toList.isEmpty = true) :
    Calls Tryz.prog 201 #[.pointer (some ⟨p, 0, none⟩), .string t] w fun e w' => e = .returned (.tuple #[]) ∧ ∃ q, w' = (w.drewN q).setCell ⟨p, 3, none⟩ (.slice none 0 0) := by
  have HFL := Lib.hid hfl
  clear hfl
  go_enter Tryz.func201, Tryz.ntmps201
  go_wp2_with fail
  refine Calls.mono HFL.out ?_
  rintro e w' ⟨rfl, q, rfl⟩
  go_wp2_with (go_at_call 191; (with_reducible refine (require_ok _ _ _).mono ?_); rintro e w' ⟨rfl, rfl⟩)
  go_end0
  exact ⟨rfl, _, rfl⟩
/-- What push leaves: the stack and the text behind it, in the walk's block. -/
def Pushed (B p n : Nat) (c : Nat) (a : Option Addr) (xs : List Value) (t : ByteArray) (w w' : World) : Prop :=
  ∃ a2 c2 w1, w1.ownsRow B 5 1 (.slice a2 (n + t.size) c2) (n + t.size) (xs ++ Lib.strCells t) ∧ w.grownBy w1 (Value.ownBlock (.slice a n c)) ∧ w' = w1.setCell ⟨p, 3, none⟩ (.slice a2 (n + t.size) c2)
set_option maxRecDepth 100000 in
theorem push_ok (B p n c : Nat) (a : Option Addr) (xs : List Value) (t : ByteArray) (ht : n + t.size ≤ 8) (w : World) (hB : B ≤ w.heap.size) (hp : p < w.heap.size) (h3 : w.cell? ⟨p, 3, none⟩ = some (.slice a n c)) (f3 : w.frozen? ⟨p, 3, none⟩ = false)
    (ho : w.ownsRow B 5 1 (.slice a n c) n xs) (hne : some p ≠ Value.ownBlock (.slice a n c)) :
    Calls Tryz.prog 202 #[.pointer (some ⟨p, 0, none⟩), .string t] w fun e w' => e = .returned (.tuple #[]) ∧ Pushed B p n c a xs t w w' := by
  obtain ⟨i0, hi, hz0, hz1, hz2⟩ := info_parts (show (Tryz.prog.info? 5).map (fun i => (i.zero, i.size, i.bytes)) = some (some (.int .u8 0), 1, 1) by kernel_rfl)
  have HI := Lib.hid (And.intro hi (And.intro hz0 (And.intro hz1 hz2)))
  have Ho := Lib.hid ho
  have HN := Lib.hid hne
  have HF := Lib.hid f3
  have hd : decide ((n : Int) + t.size ≤ 8) = true := decide_eq_true (by omega)
  clear hi hz0 hz1 hz2 ho hne
  go_enter Tryz.func202, Tryz.ntmps202
  go_wp2_with (at_builtin; go_must (refine Lib.wpList_append_own_string _ rfl (.tmp 8) (.tmp 9) _ _ rfl B 5 i0 Tryz.underlying22 Tryz.underlying9 HI.out.1 HI.out.2.1 HI.out.2.2.1 HI.out.2.2.2 (.slice a n c) n xs rfl Ho.out t rfl (by unfold maxLen; omega) (by omega) hB ?_); intro v1 w1 hown1 hgrow1 _; obtain ⟨a2, c2, rfl⟩ := wk_slice hown1; have Ho1 := Lib.hid hown1; have Hg1 := Lib.hid hgrow1; have k3 := (World.cell?_of_block (a := ⟨p, 3, none⟩) (hgrow1.block p hp HN.out)).trans h3; have k4 := (World.frozen?_of_block (a := ⟨p, 3, none⟩) (hgrow1.block p hp HN.out)).trans HF.out; clear hown1 hgrow1)
  go_wp2_with fail
  refine (require_ok _ _ _).mono ?_
  rintro e w' ⟨rfl, rfl⟩
  go_wp2_with fail
  go_end0
  exact ⟨rfl, a2, c2, w1, Ho1.out, Hg1.out, rfl⟩
set_option maxRecDepth 100000 in
theorem push_no (B p n c : Nat) (a : Option Addr) (xs : List Value) (t : ByteArray) (i : Int) (ht : 8 < n + t.size) (hn : n ≤ 100) (hm : t.size ≤ 100) (w : World) (hB : B ≤ w.heap.size) (hp : p < w.heap.size) (h3 : w.cell? ⟨p, 3, none⟩ = some (.slice a n c)) (f3 : w.frozen? ⟨p, 3, none⟩ = false)
    (ho : w.ownsRow B 5 1 (.slice a n c) n xs) (hne : some p ≠ Value.ownBlock (.slice a n c)) (hq : B ≤ p) (h2 : w.cell? ⟨p, 2, none⟩ = some (.int .i64 i)) :
    Calls Tryz.prog 202 #[.pointer (some ⟨p, 0, none⟩), .string t] w fun e w' => e = Off i 7 ∧ Below B w w' := by
  obtain ⟨i0, hi, hz0, hz1, hz2⟩ := info_parts (show (Tryz.prog.info? 5).map (fun i => (i.zero, i.size, i.bytes)) = some (some (.int .u8 0), 1, 1) by kernel_rfl)
  have HI := Lib.hid (And.intro hi (And.intro hz0 (And.intro hz1 hz2)))
  have Ho := Lib.hid ho
  have HN := Lib.hid hne
  have HF := Lib.hid f3
  have H2 := Lib.hid h2
  have HQ := Lib.hid hq
  clear h2 hq
  have hd : decide ((n : Int) + t.size ≤ 8) = false := decide_eq_false (by omega)
  clear hi hz0 hz1 hz2 ho hne
  go_enter Tryz.func202, Tryz.ntmps202
  go_wp2_with (at_builtin; go_must (refine Lib.wpList_append_own_string _ rfl (.tmp 8) (.tmp 9) _ _ rfl B 5 i0 Tryz.underlying22 Tryz.underlying9 HI.out.1 HI.out.2.1 HI.out.2.2.1 HI.out.2.2.2 (.slice a n c) n xs rfl Ho.out t rfl (by unfold maxLen; omega) (by omega) hB ?_); intro v1 w1 hown1 hgrow1 _; obtain ⟨a2, c2, rfl⟩ := wk_slice hown1; have Ho1 := Lib.hid hown1; have Hg1 := Lib.hid hgrow1; have k3 := (World.cell?_of_block (a := ⟨p, 3, none⟩) (hgrow1.block p hp HN.out)).trans h3; have k4 := (World.frozen?_of_block (a := ⟨p, 3, none⟩) (hgrow1.block p hp HN.out)).trans HF.out; clear hown1 hgrow1)
  go_wp2_with fail
  refine Calls.mono (require_no _ _ i _ (by have k2 := (World.cell?_of_block (a := ⟨p, 2, none⟩) (Hg1.out.block p hp HN.out)).trans H2.out; simpa [go_sem] using k2)) ?_
  rintro e w' ⟨rfl, rfl⟩
  exact ⟨rfl, rfl, ((Below.refl B w).grown Hg1.out hB (fun k hk => (Ho.out.lt k hk).1)).setCell (p := ⟨p, 3, none⟩) HQ.out _⟩
end Go.Proofs.YtmpppfibeoghaaaGreatDoor
