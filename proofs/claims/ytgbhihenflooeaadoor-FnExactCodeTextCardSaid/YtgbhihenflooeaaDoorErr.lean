/- codeOfError of what the encoders hand back: nil, or a numberError around one of the two sentinels. -/
import Derived.Test.YtgbhihenflooeaaDoorRows
import Derived.WalkKit
import Derived.ProofKit
import Derived.OpenShut
import Derived.Handy
import Derived.Below
import Derived.LaidEql
import Derived.Stop.Asserts
import Derived.Stop.LaidTwo
import Derived.Lib.Hide
import Derived.RowKitTokens
namespace Go.Proofs.YtgbhihenflooeaaDoor
open Go.RowKit Go.Extern.Stop Go.Stop Go.Extern
theorem isTypeOf (v : Value) (w : World) : (callFunc 134 #[.iface 201 v]).run Tryd.prog w = .ok (.value (.iface 180 (.agg #[.pointer (some ⟨5, 201, none⟩)]))) w := by kernel_rfl
theorem isComparable (w : World) : (callFunc 162 #[.agg #[.pointer (some ⟨5, 201, none⟩)]]).run Tryd.prog w = .ok (.value (.bool true)) w := by kernel_rfl
theorem isComp : (Tryd.prog.info? 201).map (·.comparable) = some true := by kernel_rfl
theorem isSize : (Tryd.prog.info? 226).map (·.size) = some 1 := by kernel_rfl
theorem noIsE (v : Value) (xT : TypeId) (w : World) : (Instr.typeAssert (.iface 201 v) xT 182 true).run Tryd.prog w = .ok (.tuple #[.nilIface, .bool false]) w := run_typeAssert_lacksB Tryd.underlying182 (by kernel_rfl) (by kernel_rfl) v xT w
theorem noUnwrapE (v : Value) (xT : TypeId) (w : World) : (Instr.typeAssert (.iface 201 v) xT 185 true).run Tryd.prog w = .ok (.tuple #[.nilIface, .bool false]) w := run_typeAssert_lacksB Tryd.underlying185 (by kernel_rfl) (by kernel_rfl) v xT w
theorem noUnwrapsE (v : Value) (xT : TypeId) (w : World) : (Instr.typeAssert (.iface 201 v) xT 187 true).run Tryd.prog w = .ok (.tuple #[.nilIface, .bool false]) w := run_typeAssert_lacksB Tryd.underlying187 (by kernel_rfl) (by kernel_rfl) v xT w
theorem noIsW (v : Value) (xT : TypeId) (w : World) : (Instr.typeAssert (.iface 162 v) xT 182 true).run Tryd.prog w = .ok (.tuple #[.nilIface, .bool false]) w := run_typeAssert_lacksB Tryd.underlying182 (by kernel_rfl) (by kernel_rfl) v xT w
theorem hasUnwrapW (v : Value) (xT : TypeId) (w : World) : (Instr.typeAssert (.iface 162 v) xT 185 true).run Tryd.prog w = .ok (.tuple #[.iface 162 v, .bool true]) w := run_typeAssert_hasB Tryd.underlying185 (by kernel_rfl) v xT w
/-- errors.Is(numberError{n, x}, x). -/
theorem is_same (n : Int) (a : Addr) (w : World) :
    Calls Tryd.prog 128 #[.iface 162 (.agg #[.int .i64 n, .iface 201 (.pointer (some a))]), .iface 201 (.pointer (some a))] w fun e w' => e = .returned (.bool true) ∧ Below w.heap.size w w' := by
  obtain ⟨i, hi, hcmp⟩ := Option.map_eq_some_iff.1 isComp
  obtain ⟨j, hj, hjs⟩ := Option.map_eq_some_iff.1 isSize
  have tT := isTypeOf
  have cT := isComparable
  have nW := noIsW
  have uW := hasUnwrapW
  have heq := fun w => run_eql_iface_ptr_same (P := Tryd.prog) w a Tryd.underlying140 Tryd.underlying201 hi hcmp hj
  have hty := fun w => run_eql_iface_types (P := Tryd.prog) 162 201 (.agg #[.int .i64 n, .iface 201 (.pointer (some a))]) (.pointer (some a)) Tryd.underlying140 (by decide) w
  go_enter Tryd.func128, Tryd.ntmps128
  go_wp2
  refine wp_loop_rounds 2 ?_
  rw [rounds_succ]
  go_wp2
  rw [rounds_succ]
  go_wp2
  go_ret
  exact ⟨rfl, (Below.refl _ _).alloc (Nat.le_refl _) _⟩
theorem heap_lt {w : World} {b : Nat} {o : Obj} (h : w.heap[b]? = some o) : b < w.heap.size := by
  rcases Nat.lt_or_ge b w.heap.size with hlt | hge
  · exact hlt
  · rw [Array.getElem?_eq_none hge] at h; cases h
theorem heap_keep {w : World} {b : Nat} {o o' : Obj} (h : w.heap[b]? = some o) : (w.alloc o').heap[b]? = some o := (Below.heap_alloc w o' b (heap_lt h)).trans h
/-- errors.Is(numberError{n, x}, y), y another sentinel than x. -/
theorem is_other (n : Int) (a b : Addr) (ca cb : Array Value) (ta tb : TypeId) (w : World) (hne : a ≠ b) (ha : w.heap[a.block]? = some (.cells ca ta (0, 0))) (hb : w.heap[b.block]? = some (.cells cb tb (0, 0))) :
    Calls Tryd.prog 128 #[.iface 162 (.agg #[.int .i64 n, .iface 201 (.pointer (some a))]), .iface 201 (.pointer (some b))] w fun e w' => e = .returned (.bool false) ∧ Below w.heap.size w w' := by
  obtain ⟨i, hi, hcmp⟩ := Option.map_eq_some_iff.1 isComp
  obtain ⟨j, hj, hjs⟩ := Option.map_eq_some_iff.1 isSize
  have tT := isTypeOf
  have cT := isComparable
  have nW := noIsW
  have uW := hasUnwrapW
  have nE := noIsE
  have uE := noUnwrapE
  have vE := noUnwrapsE
  have heq := run_eql_iface_ptr_other (P := Tryd.prog) (w.alloc (.cells #[.int .i64 n, .iface 201 (.pointer (some a))] 162)) Tryd.underlying140 Tryd.underlying201 hi hcmp hj (by rw [hjs]; decide) hne (heap_keep ha) (heap_keep hb)
  have hty := fun w => run_eql_iface_types (P := Tryd.prog) 162 201 (.agg #[.int .i64 n, .iface 201 (.pointer (some a))]) (.pointer (some b)) Tryd.underlying140 (by decide) w
  clear ha hb hne
  go_enter Tryd.func128, Tryd.ntmps128
  go_wp2
  refine wp_loop_rounds 2 ?_
  rw [rounds_succ]
  go_wp2
  rw [rounds_succ]
  go_wp2
  go_ret
  exact ⟨rfl, (Below.refl _ _).alloc (Nat.le_refl _) _⟩
/-- The two sentinels as they lie in memory: two pointers, each to a block of its own make. -/
def Sent (w : World) (a b : Addr) : Prop :=
  w.cell? ⟨3, 0, none⟩ = some (.iface 201 (.pointer (some a))) ∧ w.cell? ⟨4, 0, none⟩ = some (.iface 201 (.pointer (some b))) ∧ a ≠ b ∧
    ∃ (ca cb : Array Value) (ta tb : TypeId), w.heap[a.block]? = some (.cells ca ta (0, 0)) ∧ w.heap[b.block]? = some (.cells cb tb (0, 0))
theorem cell_block {w : World} {p : Addr} {v : Value} (h : w.cell? p = some v) : p.block < w.heap.size := by
  rcases Nat.lt_or_ge p.block w.heap.size with h' | h'
  · exact h'
  · simp [World.cell?, Array.getElem?_eq_none h'] at h
theorem Sent.below {w w' : World} {a b : Addr} (h : Sent w a b) (g : Below w.heap.size w w') : Sent w' a b := by
  obtain ⟨h1, h2, h3, ca, cb, ta, tb, h4, h5⟩ := h
  exact ⟨(g.cell (p := ⟨3, 0, none⟩) (cell_block h1)).trans h1, (g.cell (p := ⟨4, 0, none⟩) (cell_block h2)).trans h2, h3, ca, cb, ta, tb, (g.block _ (heap_lt h4)).trans h4, (g.block _ (heap_lt h5)).trans h5⟩
/-- An error of the encoders' make. -/
def errV (n : Int) (a : Addr) : Value := .iface 162 (.agg #[.int .i64 n, .iface 201 (.pointer (some a))])
theorem code_nil (w : World) : Calls Tryd.prog 111 #[.nilIface] w fun e w' => e = .returned (.int .i64 0) ∧ w = w' := by
  go_enter Tryd.func111, Tryd.ntmps111
  go_wp2
  go_ret
  exact ⟨rfl, rfl⟩
theorem code_range (n : Int) (a b : Addr) (w : World) (hs : Sent w a b) : Calls Tryd.prog 111 #[.iface 162 (.agg #[.int .i64 n, .iface 201 (.pointer (some a))])] w fun e w' => e = .returned (.int .i64 4) ∧ Below w.heap.size w w' := by
  obtain ⟨h1, h2, h3, ca, cb, ta, tb, h4, h5⟩ := hs
  clear h4 h5 h3
  go_enter Tryd.func111, Tryd.ntmps111
  go_wp2_with (go_at_call 128; refine (is_same _ _ _).mono ?_; rintro e w1 ⟨rfl, hb1⟩)
  go_ret
  exact ⟨rfl, hb1⟩
theorem code_end (n : Int) (a b : Addr) (w : World) (hs : Sent w a b) : Calls Tryd.prog 111 #[.iface 162 (.agg #[.int .i64 n, .iface 201 (.pointer (some b))])] w fun e w' => e = .returned (.int .i64 16) ∧ Below w.heap.size w w' := by
  have Hs := Lib.hid hs
  obtain ⟨h1, h2, h3, ca, cb, ta, tb, h4, h5⟩ := hs
  have H := Lib.hid (And.intro h3 (And.intro h4 h5))
  clear h2 h3 h4 h5
  go_enter Tryd.func111, Tryd.ntmps111
  go_wp2_with fail
  refine (is_other n b a cb ca tb ta w (Ne.symm H.out.1) H.out.2.2 H.out.2.1).mono ?_
  rintro e w1 ⟨rfl, hb1⟩
  have Hb1 := Lib.hid hb1
  have h2 := (Hs.out.below hb1).2.1
  clear hb1 h1
  go_wp2_with fail
  refine (is_same n b w1).mono ?_
  rintro e w2 ⟨rfl, hb2⟩
  have Hb2 := Lib.hid (Hb1.out.trans (hb2.mono Hb1.out.size))
  clear hb2
  go_wp2
  go_ret
  exact ⟨rfl, Hb2.out⟩
end Go.Proofs.YtgbhihenflooeaaDoor
