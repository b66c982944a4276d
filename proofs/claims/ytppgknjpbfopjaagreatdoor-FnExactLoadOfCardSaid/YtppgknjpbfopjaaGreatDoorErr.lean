/- codeOfError of what the encoders hand back: nil, or a numberError around one of the two sentinels. -/
import Derived.Test.YtppgknjpbfopjaaGreatDoorRows
import Derived.WalkKit
import Derived.ProofKit
import Derived.OpenShut
import Derived.Handy
import Derived.Below
import Derived.LaidEql
import Derived.Stop.Asserts
import Derived.Stop.LaidTwo
import Derived.Lib.Hide
import Derived.RowKitTokens
namespace Go.Proofs.YtppgknjpbfopjaaGreatDoor
open Go.RowKit Go.Extern.Stop Go.Stop Go.Extern
theorem isTypeOf (v : Value) (w : World) : (callFunc 222 #[.iface 289 v]).run Tryz.prog w = .ok (.value (.iface 268 (.agg #[.pointer (some ⟨5, 289, none⟩)]))) w := by kernel_rfl
theorem isComparable (w : World) : (callFunc 266 #[.agg #[.pointer (some ⟨5, 289, none⟩)]]).run Tryz.prog w = .ok (.value (.bool true)) w := by kernel_rfl
theorem isComp : (Tryz.prog.info? 289).map (·.comparable) = some true := by kernel_rfl
theorem isSize : (Tryz.prog.info? 313).map (·.size) = some 1 := by kernel_rfl
theorem noIsE (v : Value) (xT : TypeId) (w : World) : (Instr.typeAssert (.iface 289 v) xT 270 true).run Tryz.prog w = .ok (.tuple #[.nilIface, .bool false]) w := run_typeAssert_lacksB Tryz.underlying270 (by kernel_rfl) (by kernel_rfl) v xT w
theorem noUnwrapE (v : Value) (xT : TypeId) (w : World) : (Instr.typeAssert (.iface 289 v) xT 273 true).run Tryz.prog w = .ok (.tuple #[.nilIface, .bool false]) w := run_typeAssert_lacksB Tryz.underlying273 (by kernel_rfl) (by kernel_rfl) v xT w
theorem noUnwrapsE (v : Value) (xT : TypeId) (w : World) : (Instr.typeAssert (.iface 289 v) xT 275 true).run Tryz.prog w = .ok (.tuple #[.nilIface, .bool false]) w := run_typeAssert_lacksB Tryz.underlying275 (by kernel_rfl) (by kernel_rfl) v xT w
theorem noIsW (v : Value) (xT : TypeId) (w : World) : (Instr.typeAssert (.iface 226 v) xT 270 true).run Tryz.prog w = .ok (.tuple #[.nilIface, .bool false]) w := run_typeAssert_lacksB Tryz.underlying270 (by kernel_rfl) (by kernel_rfl) v xT w
theorem hasUnwrapW (v : Value) (xT : TypeId) (w : World) : (Instr.typeAssert (.iface 226 v) xT 273 true).run Tryz.prog w = .ok (.tuple #[.iface 226 v, .bool true]) w := run_typeAssert_hasB Tryz.underlying273 (by kernel_rfl) v xT w
/-- errors.Is(numberError{n, x}, x). -/
theorem is_same (n : Int) (a : Addr) (w : World) :
    Calls Tryz.prog 196 #[.iface 226 (.agg #[.int .i64 n, .iface 289 (.pointer (some a))]), .iface 289 (.pointer (some a))] w fun e w' => e = .returned (.bool true) ∧ Below w.heap.size w w' := by
  obtain ⟨i, hi, hcmp⟩ := Option.map_eq_some_iff.1 isComp
  obtain ⟨j, hj, hjs⟩ := Option.map_eq_some_iff.1 isSize
  have tT := isTypeOf
  have cT := isComparable
  have nW := noIsW
  have uW := hasUnwrapW
  have heq := fun w => run_eql_iface_ptr_same (P := Tryz.prog) w a Tryz.underlying187 Tryz.underlying289 hi hcmp hj
  have hty := fun w => run_eql_iface_types (P := Tryz.prog) 226 289 (.agg #[.int .i64 n, .iface 289 (.pointer (some a))]) (.pointer (some a)) Tryz.underlying187 (by decide) w
  go_enter Tryz.func196, Tryz.ntmps196
  go_wp2
  refine wp_loop_rounds 2 ?_
  rw [rounds_succ]
  go_wp2
  rw [rounds_succ]
  go_wp2
  go_ret
  exact ⟨rfl, (Below.refl _ _).alloc (Nat.le_refl _) _⟩
theorem heap_lt {w : World} {b : Nat} {o : Obj} (h : w.heap[b]? = some o) : b < w.heap.size := by
  rcases Nat.lt_or_ge b w.heap.size with hlt | hge
  · exact hlt
  · rw [Array.getElem?_eq_none hge] at h; cases h
theorem heap_keep {w : World} {b : Nat} {o o' : Obj} (h : w.heap[b]? = some o) : (w.alloc o').heap[b]? = some o := (Below.heap_alloc w o' b (heap_lt h)).trans h
/-- errors.Is(numberError{n, x}, y), y another sentinel than x. -/
theorem is_other (n : Int) (a b : Addr) (ca cb : Array Value) (ta tb : TypeId) (w : World) (hne : a ≠ b) (ha : w.heap[a.block]? = some (.cells ca ta (0, 0))) (hb : w.heap[b.block]? = some (.cells cb tb (0, 0))) :
    Calls Tryz.prog 196 #[.iface 226 (.agg #[.int .i64 n, .iface 289 (.pointer (some a))]), .iface 289 (.pointer (some b))] w fun e w' => e = .returned (.bool false) ∧ Below w.heap.size w w' := by
  obtain ⟨i, hi, hcmp⟩ := Option.map_eq_some_iff.1 isComp
  obtain ⟨j, hj, hjs⟩ := Option.map_eq_some_iff.1 isSize
  have tT := isTypeOf
  have cT := isComparable
  have nW := noIsW
  have uW := hasUnwrapW
  have nE := noIsE
  have uE := noUnwrapE
  have vE := noUnwrapsE
  have heq := run_eql_iface_ptr_other (P := Tryz.prog) (w.alloc (.cells #[.int .i64 n, .iface 289 (.pointer (some a))] 226)) Tryz.underlying187 Tryz.underlying289 hi hcmp hj (by rw [hjs]; decide) hne (heap_keep ha) (heap_keep hb)
  have hty := fun w => run_eql_iface_types (P := Tryz.prog) 226 289 (.agg #[.int .i64 n, .iface 289 (.pointer (some a))]) (.pointer (some b)) Tryz.underlying187 (by decide) w
  clear ha hb hne
  go_enter Tryz.func196, Tryz.ntmps196
  go_wp2
  refine wp_loop_rounds 2 ?_
  rw [rounds_succ]
  go_wp2
  rw [rounds_succ]
  go_wp2
  go_ret
  exact ⟨rfl, (Below.refl _ _).alloc (Nat.le_refl _) _⟩
/-- The two sentinels as they lie in memory: two pointers, each to a block of its own make. -/
def Sent (w : World) (a b : Addr) : Prop :=
  w.cell? ⟨0, 0, none⟩ = some (.iface 289 (.pointer (some a))) ∧ w.cell? ⟨1, 0, none⟩ = some (.iface 289 (.pointer (some b))) ∧ a ≠ b ∧
    ∃ (ca cb : Array Value) (ta tb : TypeId), w.heap[a.block]? = some (.cells ca ta (0, 0)) ∧ w.heap[b.block]? = some (.cells cb tb (0, 0))
theorem cell_block {w : World} {p : Addr} {v : Value} (h : w.cell? p = some v) : p.block < w.heap.size := by
  rcases Nat.lt_or_ge p.block w.heap.size with h' | h'
  · exact h'
  · simp [World.cell?, Array.getElem?_eq_none h'] at h
theorem Sent.below {w w' : World} {a b : Addr} (h : Sent w a b) (g : Below w.heap.size w w') : Sent w' a b := by
  obtain ⟨h1, h2, h3, ca, cb, ta, tb, h4, h5⟩ := h
  exact ⟨(g.cell (p := ⟨0, 0, none⟩) (cell_block h1)).trans h1, (g.cell (p := ⟨1, 0, none⟩) (cell_block h2)).trans h2, h3, ca, cb, ta, tb, (g.block _ (heap_lt h4)).trans h4, (g.block _ (heap_lt h5)).trans h5⟩
/-- An error of the encoders' make. -/
def errV (n : Int) (a : Addr) : Value := .iface 226 (.agg #[.int .i64 n, .iface 289 (.pointer (some a))])
theorem code_nil (w : World) : Calls Tryz.prog 158 #[.nilIface] w fun e w' => e = .returned (.int .i64 0) ∧ w = w' := by
  go_enter Tryz.func158, Tryz.ntmps158
  go_wp2
  go_ret
  exact ⟨rfl, rfl⟩
theorem code_range (n : Int) (a b : Addr) (w : World) (hs : Sent w a b) : Calls Tryz.prog 158 #[.iface 226 (.agg #[.int .i64 n, .iface 289 (.pointer (some a))])] w fun e w' => e = .returned (.int .i64 4) ∧ Below w.heap.size w w' := by
  obtain ⟨h1, h2, h3, ca, cb, ta, tb, h4, h5⟩ := hs
  clear h4 h5 h3
  go_enter Tryz.func158, Tryz.ntmps158
  go_wp2_with (go_at_call 196; refine (is_same _ _ _).mono ?_; rintro e w1 ⟨rfl, hb1⟩)
  go_ret
  exact ⟨rfl, hb1⟩
theorem code_end (n : Int) (a b : Addr) (w : World) (hs : Sent w a b) : Calls Tryz.prog 158 #[.iface 226 (.agg #[.int .i64 n, .iface 289 (.pointer (some b))])] w fun e w' => e = .returned (.int .i64 16) ∧ Below w.heap.size w w' := by
  have Hs := Lib.hid hs
  obtain ⟨h1, h2, h3, ca, cb, ta, tb, h4, h5⟩ := hs
  have H := Lib.hid (And.intro h3 (And.intro h4 h5))
  clear h2 h3 h4 h5
  go_enter Tryz.func158, Tryz.ntmps158
  go_wp2_with fail
  refine (is_other n b a cb ca tb ta w (Ne.symm H.out.1) H.out.2.2 H.out.2.1).mono ?_
  rintro e w1 ⟨rfl, hb1⟩
  have Hb1 := Lib.hid hb1
  have h2 := (Hs.out.below hb1).2.1
  clear hb1 h1
  go_wp2_with fail
  refine (is_same n b w1).mono ?_
  rintro e w2 ⟨rfl, hb2⟩
  have Hb2 := Lib.hid (Hb1.out.trans (hb2.mono Hb1.out.size))
  clear hb2
  go_wp2
  go_ret
  exact ⟨rfl, Hb2.out⟩
end Go.Proofs.YtppgknjpbfopjaaGreatDoor
