/- Which function blocks are valid: FbOK of impl and of spec; ValueOf; the copies that the laws make of a block. -/
import Derived.Test.YtgiegppakoiaiaaDoorFb
namespace Go.Proofs.YtgiegppakoiaiaaDoor
open Go.ChangeShapes Go.WideShapes Go.ChangeAt Go.RowKit
/-- A block as a value. -/
abbrev fbE (k : Int) (o : Bool) (s c : Int) : Value := .agg #[.int .i64 k, .bool o, .int .i64 s, .int .i64 c]
abbrev fbO (k : Int) (o : Bool) (s c : Int) : Obj := .cells #[.int .i64 k, .bool o, .int .i64 s, .int .i64 c] 86
def fbOKB (k : Int) (o : Bool) (s c : Int) : Bool :=
  if k = 1 then fbIn s 0 2147483647 && (fbIn c 0 2147483647 && (o || (decide (s = 0) && decide (c = 0))))
  else if k = 2 then decide (s = 0) && fbIn c 0 2147483647
  else if k = 3 ∨ k = 4 then decide (s = 0) && decide (c = 0) else false
theorem fbOK_out {k : Int} {o : Bool} {s c : Int} (h : kindB k = false) : fbOKB k o s c = false := by
  have := of_decide_eq_false h
  unfold fbOKB
  rw [if_neg (by omega), if_neg (by omega), if_neg (by omega)]
theorem fbOK_1 {o : Bool} {s c : Int} : fbOKB 1 o s c = (fbIn s 0 2147483647 && (fbIn c 0 2147483647 && (o || (decide (s = 0) && decide (c = 0))))) := rfl
theorem fbOK_2 {o : Bool} {s c : Int} : fbOKB 2 o s c = (decide (s = 0) && fbIn c 0 2147483647) := rfl
theorem fbOK_3 {o : Bool} {s c : Int} : fbOKB 3 o s c = (decide (s = 0) && decide (c = 0)) := rfl
theorem fbOK_4 {o : Bool} {s c : Int} : fbOKB 4 o s c = (decide (s = 0) && decide (c = 0)) := rfl
theorem fb_b0 (k : Int) (o : Bool) (s c : Int) (w : World) : Below w.heap.size w (w.alloc (fbO k o s c)) := (Below.refl w.heap.size w).alloc (Nat.le_refl _) _
set_option maxHeartbeats 1000000 in
theorem fbOK_any (k : Int) (o : Bool) (s c : Int) (w : World) (ht : FbTab w) : Calls Tryd.prog 60 #[fbE k o s c] w fun e w' => e = .returned (.bool (fbOKB k o s c)) ∧ Below w.heap.size w w' := by
  have Hb := Lib.hid (fb_b0 k o s c w)
  have Ht := Lib.hid (ht.below Hb.out (Nat.le_refl _))
  clear ht
  cases ho : kindB k
  · have H := Lib.hid (fbOK_out (o := o) (s := s) (c := c) ho)
    have Ho := Lib.hid ho
    clear ho
    go_enter Tryd.func60, Tryd.ntmps60
    go_wp2_with (go_at_call 111; refine (isKind_is Ho.out _).mono ?_; rintro e w' ⟨rfl, rfl⟩)
    go_ret
    exact ⟨fb_rb (by rw [H.out]), Hb.out⟩
  · have Ho := Lib.hid ho
    rcases kindB_yes ho with rfl | rfl | rfl | rfl
    · obtain ⟨c0, c1, c2, c3⟩ := Ht.out 1 _ rfl
      clear ho
      go_enter Tryd.func60, Tryd.ntmps60
      go_wp2_with (go_at_call 111; refine (isKind_is Ho.out _).mono ?_; rintro e w' ⟨rfl, rfl⟩)
      all_goals (go_ret; refine ⟨fb_rb ?_, (fb_b0 _ _ _ _ w).alloc (fb_b0 _ _ _ _ w).size _⟩; clear Hb Ht Ho c0 c1 c2 c3; rw [fbOK_1, Bool.eq_iff_iff]; simp_all [fbIn]; try omega)
    · obtain ⟨c0, c1, c2, c3⟩ := Ht.out 2 _ rfl
      clear ho
      go_enter Tryd.func60, Tryd.ntmps60
      go_wp2_with (go_at_call 111; refine (isKind_is Ho.out _).mono ?_; rintro e w' ⟨rfl, rfl⟩)
      all_goals (go_ret; refine ⟨fb_rb ?_, (fb_b0 _ _ _ _ w).alloc (fb_b0 _ _ _ _ w).size _⟩; rw [fbOK_2, Bool.eq_iff_iff]; simp [fbIn]; omega)
    · obtain ⟨c0, c1, c2, c3⟩ := Ht.out 3 _ rfl
      clear ho
      go_enter Tryd.func60, Tryd.ntmps60
      go_wp2_with (go_at_call 111; refine (isKind_is Ho.out _).mono ?_; rintro e w' ⟨rfl, rfl⟩)
      all_goals (go_ret; refine ⟨fb_rb ?_, (fb_b0 _ _ _ _ w).alloc (fb_b0 _ _ _ _ w).size _⟩; rw [fbOK_3, Bool.eq_iff_iff]; simp; omega)
    · obtain ⟨c0, c1, c2, c3⟩ := Ht.out 4 _ rfl
      clear ho
      go_enter Tryd.func60, Tryd.ntmps60
      go_wp2_with (go_at_call 111; refine (isKind_is Ho.out _).mono ?_; rintro e w' ⟨rfl, rfl⟩)
      all_goals (go_ret; refine ⟨fb_rb ?_, (fb_b0 _ _ _ _ w).alloc (fb_b0 _ _ _ _ w).size _⟩; rw [fbOK_4, Bool.eq_iff_iff]; simp; omega)
theorem fbOK_is {k : Int} {o : Bool} {s c : Int} {b : Bool} (h : fbOKB k o s c = b) (w : World) (ht : FbTab w) : Calls Tryd.prog 60 #[fbE k o s c] w fun e w' => e = .returned (.bool b) ∧ Below w.heap.size w w' := h ▸ fbOK_any k o s c w ht
set_option maxHeartbeats 1000000 in
theorem specFbOK_any (k : Int) (o : Bool) (s c : Int) (w : World) : Calls Tryd.prog 75 #[fbE k o s c] w fun e w' => e = .returned (.bool (fbOKB k o s c)) ∧ Below w.heap.size w w' := by
  have Hb := Lib.hid (fb_b0 k o s c w)
  by_cases k1 : k = 1
  · subst k1
    go_enter Tryd.func75, Tryd.ntmps75
    go_wp2_with (go_at_call 49; refine (fbIn_any _ _ _ _).mono ?_; rintro e w' ⟨rfl, rfl⟩)
    all_goals (go_ret; refine ⟨fb_rb ?_, fb_b0 _ _ _ _ w⟩; clear Hb; rw [fbOK_1, Bool.eq_iff_iff]; simp_all)
  by_cases k2 : k = 2
  · subst k2
    go_enter Tryd.func75, Tryd.ntmps75
    go_wp2_with (go_at_call 49; refine (fbIn_any _ _ _ _).mono ?_; rintro e w' ⟨rfl, rfl⟩)
    all_goals (go_ret; refine ⟨fb_rb ?_, fb_b0 _ _ _ _ w⟩; clear Hb; rw [fbOK_2, Bool.eq_iff_iff]; simp_all)
  by_cases k3 : k = 3
  · subst k3
    go_enter Tryd.func75, Tryd.ntmps75
    go_wp2
    all_goals (go_ret; refine ⟨fb_rb ?_, fb_b0 _ _ _ _ w⟩; clear Hb; rw [fbOK_3, Bool.eq_iff_iff]; simp_all)
  by_cases k4 : k = 4
  · subst k4
    go_enter Tryd.func75, Tryd.ntmps75
    go_wp2
    all_goals (go_ret; refine ⟨fb_rb ?_, fb_b0 _ _ _ _ w⟩; clear Hb; rw [fbOK_4, Bool.eq_iff_iff]; simp_all)
  have H := Lib.hid (fbOK_out (o := o) (s := s) (c := c) (show kindB k = false from decide_eq_false (by omega)))
  have e1 : (k == 1) = false := beq_eq_false_iff_ne.2 k1
  have e2 : (k == 2) = false := beq_eq_false_iff_ne.2 k2
  have e3 : (k == 3) = false := beq_eq_false_iff_ne.2 k3
  have e4 : (k == 4) = false := beq_eq_false_iff_ne.2 k4
  clear k1 k2 k3 k4
  go_enter Tryd.func75, Tryd.ntmps75
  go_wp2
  go_ret
  exact ⟨fb_rb (by rw [H.out]), Hb.out⟩
theorem specFbOK_is {k : Int} {o : Bool} {s c : Int} {b : Bool} (h : fbOKB k o s c = b) (w : World) : Calls Tryd.prog 75 #[fbE k o s c] w fun e w' => e = .returned (.bool b) ∧ Below w.heap.size w w' := h ▸ specFbOK_any k o s c w
/-- A block that was boxed still lies behind a call. -/
theorem fb_keep {w w1 : World} {x0 x1 x2 x3 : Value} {t : TypeId} (hb : Below (w.alloc (.cells #[x0, x1, x2, x3] t)).heap.size (w.alloc (.cells #[x0, x1, x2, x3] t)) w1) : w1.heap[w.heap.size]? = some (.cells #[x0, x1, x2, x3] t (0, 0)) :=
  (hb.block w.heap.size (by simp)).trans (heap_alloc_new w _)
theorem fb_cells {w : World} {b : Nat} {x0 x1 x2 x3 : Value} {t : TypeId} (h : w.heap[b]? = some (.cells #[x0, x1, x2, x3] t (0, 0))) : w.cell? ⟨b, 0, none⟩ = some x0 ∧ w.cell? ⟨b, 1, none⟩ = some x1 ∧ w.cell? ⟨b, 2, none⟩ = some x2 ∧ w.cell? ⟨b, 3, none⟩ = some x3 :=
  ⟨cell_of_row _ _ 0 _ _ _ h, cell_of_row _ _ 1 _ _ _ h, cell_of_row _ _ 2 _ _ _ h, cell_of_row _ _ 3 _ _ _ h⟩
def valF (k : Int) (o : Bool) (s c : Int) : Int := if fbOKB k o s c = true then c else 0
def valC (k : Int) (o : Bool) (s c : Int) : Int := if fbOKB k o s c = true then 0 else 1
theorem toFb_any (k : Int) (o : Bool) (s c : Int) (w : World) : Calls Tryd.prog 125 #[fbE k o s c] w fun e w' => e = .returned (fbE k o s c) ∧ Below w.heap.size w w' := by
  go_enter Tryd.func125, Tryd.ntmps125
  go_wp2
  refine bodyPost_ret (v := fbE k o s c) (by simp [results, Tryd.results125, go_sem]) rfl ⟨rfl, ?_⟩
  exact (((Below.refl w.heap.size w).alloc (Nat.le_refl _) _).alloc (by simp) _).alloc (by simp; omega) _
end Go.Proofs.YtgiegppakoiaiaaDoor
