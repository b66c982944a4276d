/- A walk of impl's verifier: what an instruction names; its effect. -/
import Derived.Test.YtbbhoaljldgjeaaDoorWalk
import Derived.Test.YtbbhoaljldgjeaaDoorInsOK
namespace Go.Proofs.YtbbhoaljldgjeaaDoor
open Go.ChangeShapes Go.WideShapes Go.ChangeAt Go.RowKit
set_option linter.unusedVariables false
theorem bel_dn {B : Nat} {a w : World} (h : Below B a w) (q : Nat) : Below B a (w.drewN q) := ⟨h.os, h.tape, h.output, h.size, h.block⟩
theorem find_plain (p : Nat) (o y : Int) (w : World) (h19 : (o == 19) = false) (h20 : (o == 20) = false) (h26 : (o == 26) = false) :
    Calls Tryd.prog 91 #[.pointer (some ⟨p, 0, none⟩), .agg #[.int .i64 o, .int .i64 y]] w fun e w' => e = .returned (.tuple #[]) ∧ Below w.heap.size w w' := by
  go_enter Tryd.func91, Tryd.ntmps91
  go_wp2
  go_end0
  exact ⟨rfl, (Below.refl _ _).alloc (Nat.le_refl _) _⟩
theorem find_block_ok (p n c : Nat) (k : Option Addr) (o y : Int) (ho : o = 19 ∨ o = 20) (hy : y < n) (w : World) (hp : p < w.heap.size) (h0 : w.cell? ⟨p, 0, none⟩ = some (.slice k n c)) :
    Calls Tryd.prog 91 #[.pointer (some ⟨p, 0, none⟩), .agg #[.int .i64 o, .int .i64 y]] w fun e w' => e = .returned (.tuple #[]) ∧ Below w.heap.size w w' := by
  have hd : decide (y < (n : Int)) = true := decide_eq_true (by omega)
  rcases ho with rfl | rfl
  all_goals
    go_enter Tryd.func91, Tryd.ntmps91
    go_wp2
    go_quiet ((go_at_call 85; exact Calls.quiet_of_same ((require_ok _ _ _).mono fun _ _ ⟨a, b⟩ => ⟨a, b.symm⟩)))
    go_wp2
    go_end0
    exact ⟨rfl, bel_dn ((Below.refl _ _).alloc (Nat.le_refl _) _) _⟩
set_option maxHeartbeats 1000000 in
theorem find_block_no (p n c : Nat) (k : Option Addr) (o y i : Int) (ho : o = 19 ∨ o = 20) (hy : (n : Int) ≤ y) (w : World) (hp : p < w.heap.size) (h0 : w.cell? ⟨p, 0, none⟩ = some (.slice k n c)) (h2 : w.cell? ⟨p, 2, none⟩ = some (.int .i64 i)) :
    Calls Tryd.prog 91 #[.pointer (some ⟨p, 0, none⟩), .agg #[.int .i64 o, .int .i64 y]] w fun e w' => e = Off i 5 ∧ Below w.heap.size w w' := by
  have hd : decide (y < (n : Int)) = false := decide_eq_false (by omega)
  rcases ho with rfl | rfl
  all_goals
    go_enter Tryd.func91, Tryd.ntmps91
    go_wp2
    go_region_dies
    all_goals
      refine Calls.mono (require_no _ _ i _ (by exact (((Below.refl w.heap.size w).alloc (Nat.le_refl _) _).cell (p := ⟨p, 2, none⟩) hp).trans h2)) ?_
      rintro e w' ⟨rfl, rfl⟩
      exact ⟨rfl, rfl, bel_dn ((Below.refl _ _).alloc (Nat.le_refl _) _) 1⟩
theorem find_call_ok (p : Nat) (y r : Int) (hy : y < r) (w : World) (hp : p < w.heap.size) (h1 : w.cell? ⟨p, 1, none⟩ = some (.int .i64 r)) :
    Calls Tryd.prog 91 #[.pointer (some ⟨p, 0, none⟩), .agg #[.int .i64 26, .int .i64 y]] w fun e w' => e = .returned (.tuple #[]) ∧ Below w.heap.size w w' := by
  have hd : decide (y < r) = true := decide_eq_true hy
  clear hy
  go_enter Tryd.func91, Tryd.ntmps91
  go_wp2
  go_quiet ((go_at_call 85; exact Calls.quiet_of_same ((require_ok _ _ _).mono fun _ _ ⟨a, b⟩ => ⟨a, b.symm⟩)))
  go_wp2
  go_end0
  exact ⟨rfl, bel_dn ((Below.refl _ _).alloc (Nat.le_refl _) _) _⟩
theorem find_call_no (p : Nat) (y r i : Int) (hy : r ≤ y) (w : World) (hp : p < w.heap.size) (h1 : w.cell? ⟨p, 1, none⟩ = some (.int .i64 r)) (h2 : w.cell? ⟨p, 2, none⟩ = some (.int .i64 i)) :
    Calls Tryd.prog 91 #[.pointer (some ⟨p, 0, none⟩), .agg #[.int .i64 26, .int .i64 y]] w fun e w' => e = Off i 15 ∧ Below w.heap.size w w' := by
  have hd : decide (y < r) = false := decide_eq_false (by omega)
  clear hy
  go_enter Tryd.func91, Tryd.ntmps91
  go_wp2
  go_region_dies
  all_goals
    refine Calls.mono (require_no _ _ i _ (by exact (((Below.refl w.heap.size w).alloc (Nat.le_refl _) _).cell (p := ⟨p, 2, none⟩) hp).trans h2)) ?_
    rintro e w' ⟨rfl, rfl⟩
    exact ⟨rfl, rfl, bel_dn ((Below.refl _ _).alloc (Nat.le_refl _) _) 1⟩
end Go.Proofs.YtbbhoaljldgjeaaDoor
namespace Go.Proofs.YtbbhoaljldgjeaaDoor
open Go.ChangeShapes Go.WideShapes Go.ChangeAt Go.RowKit
set_option linter.unusedVariables false
theorem effTab_two {w : World} (ht : EffTab w) (O O' : Obj) : EffTab ((w.alloc O).alloc O') :=
  ht.below (B := w.heap.size) (((Below.refl w.heap.size w).alloc (Nat.le_refl _) O).alloc (by simp) O') (Nat.le_refl _)
theorem effectOf_plain (p k : Nat) (y : Int) (hk : k < 27) (h19 : ((k : Int) == 19) = false) (w : World) (ht : EffTab w) :
    Calls Tryd.prog 92 #[.pointer (some ⟨p, 0, none⟩), .agg #[.int .i64 k, .int .i64 y]] w fun e w' => e = .returned (.agg #[.string (effT k), .string (effG k)]) ∧ Below w.heap.size w w' := by
  obtain ⟨c0, c1⟩ := effTab_two ht (.cells #[.int .i64 k, .int .i64 y] 38) (.cells #[.string ⟨#[]⟩, .string ⟨#[]⟩] 125) k hk
  clear ht
  generalize effT k = T at *
  generalize effG k = G at *
  go_enter Tryd.func92, Tryd.ntmps92
  go_wp2
  refine bodyPost_ret (v := .agg #[.string T, .string G]) (by simp [results, Tryd.results92, go_sem]) rfl ⟨rfl, ?_⟩
  exact (((Below.refl w.heap.size w).alloc (Nat.le_refl _) _).alloc (by simp) _).alloc (by simp; omega) _
theorem effectOf_block (p b o n c : Nat) (ks : List Int) (y : Nat) (hy : y < n) (w : World) (ht : EffTab w) (hf : FbTab w) (hp : p < w.heap.size) (h0 : w.cell? ⟨p, 0, none⟩ = some (.slice (some ⟨b, o, none⟩) n c)) (hb : b < w.heap.size) (hk : w.cell? ⟨b, o + y, none⟩ = some (.int .i64 (ks.getD y 0))) :
    Calls Tryd.prog 92 #[.pointer (some ⟨p, 0, none⟩), .agg #[.int .i64 19, .int .i64 y]] w fun e w' => e = .returned (.agg #[.string (takesF (ks.getD y 0)), .string ⟨#[98]⟩]) ∧ Below w.heap.size w w' := by
  obtain ⟨c0, c1⟩ := effTab_two ht (.cells #[.int .i64 19, .int .i64 y] 38) (.cells #[.string ⟨#[]⟩, .string ⟨#[]⟩] 125) 19 (by omega)
  have e0 : effT 19 = ⟨#[]⟩ := rfl
  have e1 : effG 19 = ⟨#[98]⟩ := rfl
  rw [e0] at c0
  rw [e1] at c1
  have hB : ∀ O O' O'' : Obj, Below w.heap.size w (((w.alloc O).alloc O').alloc O'') := fun O O' O'' => (((Below.refl w.heap.size w).alloc (Nat.le_refl _) O).alloc (by simp) O').alloc (by simp; omega) O''
  have HF : Hid (∀ (O O' O'' : Obj) (q : Nat), FbTab ((((w.alloc O).alloc O').alloc O'').drewN q)) := Lib.hid (fun O O' O'' q => hf.below (bel_dn (hB O O' O'') q) (Nat.le_refl _))
  have d0 : ∀ O O' O'' : Obj, (((w.alloc O).alloc O').alloc O'').cell? ⟨p, 0, none⟩ = some (.slice (some ⟨b, o, none⟩) n c) := fun O O' O'' => ((hB O O' O'').cell (p := ⟨p, 0, none⟩) hp).trans h0
  have d1 : ∀ O O' O'' : Obj, (((w.alloc O).alloc O').alloc O'').cell? ⟨b, o + y, none⟩ = some (.int .i64 (ks.getD y 0)) := fun O O' O'' => ((hB O O' O'').cell (p := ⟨b, o + y, none⟩) hb).trans hk
  have HB := Lib.hid hB
  clear ht hf e0 e1 hB h0 hk hp hb
  generalize ks.getD y 0 = z at *
  go_enter Tryd.func92, Tryd.ntmps92
  go_wp2
  go_region_with (go_at_call 109; refine Calls.mono (takesOf_any z _ (by exact HF.out _ _ _ 1)) ?_; rintro e w' ⟨rfl, rfl⟩)
  all_goals go_wp2
  all_goals
    refine bodyPost_ret (v := .agg #[.string (takesF z), .string ⟨#[98]⟩]) (by simp [results, Tryd.results92, go_sem]) rfl ⟨rfl, ?_⟩
    exact bel_dn (HB.out _ _ _) 1
end Go.Proofs.YtbbhoaljldgjeaaDoor
