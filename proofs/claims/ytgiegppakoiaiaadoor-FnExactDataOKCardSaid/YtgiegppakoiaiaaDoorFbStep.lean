/- StepBlock of impl: a block behind an interface, its step and its state. -/
import Derived.Test.YtgiegppakoiaiaaDoorFbOK
import Derived.RegionTactic
import Derived.IntWalk
import Derived.WalkSmall
import Derived.WalkSpells
import Derived.WalkLawsBesides
import Derived.Deep.RegionWith
namespace Go.Proofs.YtgiegppakoiaiaaDoor
open Go.ChangeShapes Go.WideShapes Go.ChangeAt Go.RowKit
abbrev tmO (o : Bool) (s c : Int) : Obj := .cells #[.bool o, .int .i64 s, .int .i64 c] 228
abbrev ctO (o : Bool) (c : Int) : Obj := .cells #[.bool o, .int .i64 c] 231
abbrev egO (o : Bool) : Obj := .cells #[.bool o] 234
abbrev laO (o : Bool) : Obj := .cells #[.bool o] 236
theorem blockOf_timer (o : Bool) (s c : Int) (w : World) : Calls Tryd.prog 175 #[fbE 1 o s c] w fun e w' => e = .returned (.iface 226 (.pointer (some ⟨w.heap.size + 1, 0, none⟩))) ∧ w' = (w.alloc (fbO 1 o s c)).alloc (tmO o s c) := by
  go_enter Tryd.func175, Tryd.ntmps175
  go_wp2
  go_ret
  exact ⟨rfl, rfl⟩
theorem blockOf_counter (o : Bool) (c : Int) (w : World) : Calls Tryd.prog 175 #[fbE 2 o 0 c] w fun e w' => e = .returned (.iface 229 (.pointer (some ⟨w.heap.size + 1, 0, none⟩))) ∧ w' = (w.alloc (fbO 2 o 0 c)).alloc (ctO o c) := by
  go_enter Tryd.func175, Tryd.ntmps175
  go_wp2
  go_ret
  exact ⟨rfl, rfl⟩
theorem blockOf_edge (o : Bool) (w : World) : Calls Tryd.prog 175 #[fbE 3 o 0 0] w fun e w' => e = .returned (.iface 232 (.pointer (some ⟨w.heap.size + 1, 0, none⟩))) ∧ w' = (w.alloc (fbO 3 o 0 0)).alloc (egO o) := by
  go_enter Tryd.func175, Tryd.ntmps175
  go_wp2
  go_ret
  exact ⟨rfl, rfl⟩
theorem blockOf_latch (o : Bool) (w : World) : Calls Tryd.prog 175 #[fbE 4 o 0 0] w fun e w' => e = .returned (.iface 235 (.pointer (some ⟨w.heap.size + 1, 0, none⟩))) ∧ w' = (w.alloc (fbO 4 o 0 0)).alloc (laO o) := by
  go_enter Tryd.func175, Tryd.ntmps175
  go_wp2
  go_ret
  exact ⟨rfl, rfl⟩
/-- One step of each kind: the state behind it and what is pushed. -/
def tmS (o a : Bool) (s now : Int) : Int := if a = true then (if o = true then s else now) else 0
def tmC (o a : Bool) (s n now : Int) : Int := if a = true then max (min (now - (if o = true then s else now)) n) 0 else 0
def tmQ (o a : Bool) (s n now : Int) : Bool := a && decide (n ≤ tmC o a s n now)
def ctC (o a b : Bool) (c : Int) : Int := if b = true then 0 else if (a && !o) = true then min (c + 1) 2147483647 else c
def ctQ (o a b : Bool) (c n : Int) : Bool := decide (n ≤ ctC o a b c)
def laF (o a b : Bool) : Bool := a || (o && !b)
/-- What a step leaves of the block at b. -/
def StepTo (b : Nat) (O : Obj) (q : Bool) (w : World) (e : Ending) (w' : World) : Prop := e = .returned (.bool q) ∧ w.grownBy w' (some b) ∧ w'.heap[b]? = some O
theorem fb_set {w : World} {p : Nat} {cs : Array Value} {t : TypeId} (h : w.heap[p]? = some (.cells cs t (0, 0))) (i : Nat) (u : Value) : (w.setCell ⟨p, i, none⟩ u).heap[p]? = some (.cells (cs.setIfInBounds i u) t (0, 0)) := by
  simp [World.setCell, Array.getElem?_modify, h]
theorem fb_grown (w : World) (p i : Nat) (u : Value) : w.grownBy (w.setCell ⟨p, i, none⟩ u) (some p) :=
  ⟨rfl, rfl, rfl, by simp, fun k _ hk => heap_setCell_other w ⟨p, i, none⟩ k u (fun e => hk (by simp [e]))⟩
theorem fb_tr {a b c : World} {row : Option Nat} (h : a.grownBy b row) (g : b.grownBy c row) : a.grownBy c row :=
  ⟨g.os.trans h.os, g.tape.trans h.tape, g.output.trans h.output, Nat.le_trans h.size g.size, fun k hk hr => (g.block k (Nat.lt_of_lt_of_le hk h.size) hr).trans (h.block k hk hr)⟩
theorem edge_step (o a b : Bool) (n now : Int) (p : Nat) (w : World) (h : w.heap[p]? = some (egO o)) : Calls Tryd.prog 210 #[.pointer (some ⟨p, 0, none⟩), .bool a, .bool b, .int .i64 n, .int .i64 now] w (StepTo p (egO a) (a && !o) w) := by
  have c0 : w.cell? ⟨p, 0, none⟩ = some (.bool o) := cell_of_row w p 0 _ _ (0, 0) h
  have f0 : w.frozen? ⟨p, 0, none⟩ = false := frozen_of_row w p 0 _ _ h
  have H := Lib.hid (fb_set h 0 (.bool a))
  clear h
  cases a <;> cases o
  all_goals
    go_enter Tryd.func210, Tryd.ntmps210
    go_wp2
    go_ret
    exact ⟨rfl, fb_grown _ _ _ _, H.out⟩
theorem latch_step (o a b : Bool) (n now : Int) (p : Nat) (w : World) (h : w.heap[p]? = some (laO o)) : Calls Tryd.prog 212 #[.pointer (some ⟨p, 0, none⟩), .bool a, .bool b, .int .i64 n, .int .i64 now] w (StepTo p (laO (laF o a b)) (laF o a b) w) := by
  have c0 : w.cell? ⟨p, 0, none⟩ = some (.bool o) := cell_of_row w p 0 _ _ (0, 0) h
  have f0 : w.frozen? ⟨p, 0, none⟩ = false := frozen_of_row w p 0 _ _ h
  have H := Lib.hid (fb_set h 0 (.bool (laF o a b)))
  clear h
  cases a <;> cases o <;> cases b
  all_goals
    go_enter Tryd.func212, Tryd.ntmps212
    go_wp2
    go_ret
    exact ⟨rfl, fb_grown _ _ _ _, H.out⟩
theorem fb_to {w : World} {p : Nat} {O O' : Obj} (h : w.heap[p]? = some O') (e : O' = O) : w.heap[p]? = some O := e ▸ h
set_option maxHeartbeats 1000000 in
theorem counter_step (o a b : Bool) (c n now : Int) (hc : 0 ≤ c ∧ c ≤ 2147483647) (hn : -2147483648 ≤ n ∧ n ≤ 2147483647) (p : Nat) (w : World) (h : w.heap[p]? = some (ctO o c)) : Calls Tryd.prog 208 #[.pointer (some ⟨p, 0, none⟩), .bool a, .bool b, .int .i64 n, .int .i64 now] w (StepTo p (ctO a (ctC o a b c)) (ctQ o a b c n) w) := by
  have c0 : w.cell? ⟨p, 0, none⟩ = some (.bool o) := cell_of_row w p 0 _ _ (0, 0) h
  have c1 : w.cell? ⟨p, 1, none⟩ = some (.int .i64 c) := cell_of_row w p 1 _ _ (0, 0) h
  have f0 : w.frozen? ⟨p, 0, none⟩ = false := frozen_of_row w p 0 _ _ h
  have f1 : w.frozen? ⟨p, 1, none⟩ = false := frozen_of_row w p 1 _ _ h
  have H := Lib.hid h
  clear h
  cases a <;> cases o <;> cases b
  all_goals
    go_enter Tryd.func208, Tryd.ntmps208
    go_wp2
  all_goals
    go_ret
    refine ⟨fb_rb ?_, ?_, ?_⟩
    · rw [Bool.eq_iff_iff]
      simp [ctQ, ctC]
      try omega
    · first | (with_reducible exact fb_grown _ _ _ _) | exact fb_tr (fb_grown _ _ _ _) (fb_grown _ _ _ _)
    · (first | (with_reducible refine fb_to (fb_set (fb_set H.out _ _) _ _) ?_) | (with_reducible refine fb_to (fb_set H.out _ _) ?_))
      simp [ctC]
      try omega
set_option maxHeartbeats 1000000 in
theorem timer_step (o a b : Bool) (s c n now : Int) (hs : 0 ≤ s ∧ s ≤ 2147483647) (hn : -2147483648 ≤ n ∧ n ≤ 2147483647) (hw : 0 ≤ now ∧ now ≤ 2147483647) (p : Nat) (w : World) (h : w.heap[p]? = some (tmO o s c)) :
    Calls Tryd.prog 206 #[.pointer (some ⟨p, 0, none⟩), .bool a, .bool b, .int .i64 n, .int .i64 now] w (StepTo p (tmO a (tmS o a s now) (tmC o a s n now)) (tmQ o a s n now) w) := by
  have c0 : w.cell? ⟨p, 0, none⟩ = some (.bool o) := cell_of_row w p 0 _ _ (0, 0) h
  have c1 : w.cell? ⟨p, 1, none⟩ = some (.int .i64 s) := cell_of_row w p 1 _ _ (0, 0) h
  have c2 : w.cell? ⟨p, 2, none⟩ = some (.int .i64 c) := cell_of_row w p 2 _ _ (0, 0) h
  have f0 : w.frozen? ⟨p, 0, none⟩ = false := frozen_of_row w p 0 _ _ h
  have f1 : w.frozen? ⟨p, 1, none⟩ = false := frozen_of_row w p 1 _ _ h
  have f2 : w.frozen? ⟨p, 2, none⟩ = false := frozen_of_row w p 2 _ _ h
  have H := Lib.hid h
  clear h
  cases a <;> cases o
  all_goals
    go_enter Tryd.func206, Tryd.ntmps206
    go_wp2
  all_goals
    go_ret
    refine ⟨fb_rb ?_, ?_, ?_⟩
    · rw [Bool.eq_iff_iff]
      simp [tmQ, tmC]
      try omega
    · first | (with_reducible exact fb_grown _ _ _ _) | exact fb_tr (fb_tr (fb_grown _ _ _ _) (fb_grown _ _ _ _)) (fb_grown _ _ _ _)
    · (first | (with_reducible refine fb_to (fb_set (fb_set (fb_set H.out _ _) _ _) _ _) ?_) | (with_reducible refine fb_to (fb_set H.out _ _) ?_))
      simp [tmS, tmC]
      try omega
end Go.Proofs.YtgiegppakoiaiaaDoor
