/- StepBlock of impl: the state of a block; a call through the interface. -/
import Derived.Test.YtgiegppakoiaiaaDoorFbStep
import Derived.Test.YtgiegppakoiaiaaDoorNum
namespace Go.Proofs.YtgiegppakoiaiaaDoor
open Go.ChangeShapes Go.WideShapes Go.ChangeAt Go.RowKit
theorem edge_state (o : Bool) (p : Nat) (w : World) (h : w.heap[p]? = some (egO o)) (hp : p < w.heap.size) : Calls Tryd.prog 209 #[.pointer (some ⟨p, 0, none⟩)] w fun e w' => e = .returned (fbE 3 o 0 0) ∧ Below w.heap.size w w' := by
  have c0 : w.cell? ⟨p, 0, none⟩ = some (.bool o) := cell_of_row w p 0 _ _ (0, 0) h
  clear h
  go_enter Tryd.func209, Tryd.ntmps209
  go_wp2
  refine bodyPost_ret (v := fbE 3 o 0 0) (by simp [results, Tryd.results209, go_sem]) rfl ⟨rfl, ?_⟩
  exact (Below.refl w.heap.size w).alloc (Nat.le_refl _) _
theorem latch_state (o : Bool) (p : Nat) (w : World) (h : w.heap[p]? = some (laO o)) (hp : p < w.heap.size) : Calls Tryd.prog 211 #[.pointer (some ⟨p, 0, none⟩)] w fun e w' => e = .returned (fbE 4 o 0 0) ∧ Below w.heap.size w w' := by
  have c0 : w.cell? ⟨p, 0, none⟩ = some (.bool o) := cell_of_row w p 0 _ _ (0, 0) h
  clear h
  go_enter Tryd.func211, Tryd.ntmps211
  go_wp2
  refine bodyPost_ret (v := fbE 4 o 0 0) (by simp [results, Tryd.results211, go_sem]) rfl ⟨rfl, ?_⟩
  exact (Below.refl w.heap.size w).alloc (Nat.le_refl _) _
theorem counter_state (o : Bool) (c : Int) (p : Nat) (w : World) (h : w.heap[p]? = some (ctO o c)) (hp : p < w.heap.size) : Calls Tryd.prog 207 #[.pointer (some ⟨p, 0, none⟩)] w fun e w' => e = .returned (fbE 2 o 0 c) ∧ Below w.heap.size w w' := by
  have c0 : w.cell? ⟨p, 0, none⟩ = some (.bool o) := cell_of_row w p 0 _ _ (0, 0) h
  have c1 : w.cell? ⟨p, 1, none⟩ = some (.int .i64 c) := cell_of_row w p 1 _ _ (0, 0) h
  clear h
  go_enter Tryd.func207, Tryd.ntmps207
  go_wp2
  go_region
  go_wp2
  refine bodyPost_ret (v := fbE 2 o 0 c) (by simp [results, Tryd.results207, go_sem]) rfl ⟨rfl, ?_⟩
  exact fb_dn ((Below.refl w.heap.size w).alloc (Nat.le_refl _) _) 1
theorem timer_state (o : Bool) (s c : Int) (p : Nat) (w : World) (h : w.heap[p]? = some (tmO o s c)) (hp : p < w.heap.size) : Calls Tryd.prog 205 #[.pointer (some ⟨p, 0, none⟩)] w fun e w' => e = .returned (fbE 1 o s c) ∧ Below w.heap.size w w' := by
  have c0 : w.cell? ⟨p, 0, none⟩ = some (.bool o) := cell_of_row w p 0 _ _ (0, 0) h
  have c1 : w.cell? ⟨p, 1, none⟩ = some (.int .i64 s) := cell_of_row w p 1 _ _ (0, 0) h
  have c2 : w.cell? ⟨p, 2, none⟩ = some (.int .i64 c) := cell_of_row w p 2 _ _ (0, 0) h
  clear h
  go_enter Tryd.func205, Tryd.ntmps205
  go_wp2
  go_region
  go_wp2
  refine bodyPost_ret (v := fbE 1 o s c) (by simp [results, Tryd.results205, go_sem]) rfl ⟨rfl, ?_⟩
  exact fb_dn ((Below.refl w.heap.size w).alloc (Nat.le_refl _) _) 1
theorem fb_fits32 (n : Int) (w : World) : Calls Tryd.prog 110 #[.int .i64 n] w fun e w' => e = .returned (.bool (inI32 n)) ∧ w = w' := by
  have H := Lib.hid (fits32_eq n)
  go_enter Tryd.func110, Tryd.ntmps110
  go_wp2
  go_ret
  exact ⟨by rw [← H.out]; rfl, rfl⟩
theorem fb_isValue (n : Int) (w : World) : Calls Tryd.prog 58 #[.int .i64 n] w fun e w' => e = .returned (.bool (inI32 n)) ∧ w = w' := by
  go_enter Tryd.func58, Tryd.ntmps58
  go_wp2_with (go_at_call 110; refine (fb_fits32 _ _).mono ?_; rintro e w' ⟨rfl, rfl⟩)
  go_ret
  exact ⟨rfl, rfl⟩
theorem fb_isValue_is {n : Int} {b : Bool} (h : inI32 n = b) (w : World) : Calls Tryd.prog 58 #[.int .i64 n] w fun e w' => e = .returned (.bool b) ∧ w = w' := h ▸ fb_isValue n w
theorem isTime_is {n : Int} {b : Bool} (h : fbIn n 0 2147483647 = b) (w : World) : Calls Tryd.prog 94 #[.int .i64 n] w fun e w' => e = .returned (.bool b) ∧ w = w' := h ▸ isTime_any n w
theorem fb_keep2 {w w1 : World} {O O' : Obj} (hb : Below ((w.alloc O).alloc O').heap.size ((w.alloc O).alloc O') w1) : w1.heap[w.heap.size]? = some O ∧ w1.heap[w.heap.size + 1]? = some O' ∧ w.heap.size + 1 < w1.heap.size :=
  ⟨(hb.block w.heap.size (by simp; omega)).trans (heap_alloc2_old w O O'), (hb.block (w.heap.size + 1) (by simp)).trans (heap_alloc2_new w O O'), by have := hb.size; simp at this; omega⟩
theorem fb_blk {w : World} {b : Nat} {x0 x1 x2 x3 : Value} {t : TypeId} (h : w.heap[b]? = some (.cells #[x0, x1, x2, x3] t (0, 0))) : w.frozen? ⟨b, 0, none⟩ = false ∧ w.frozen? ⟨b, 1, none⟩ = false ∧ w.frozen? ⟨b, 2, none⟩ = false ∧ w.frozen? ⟨b, 3, none⟩ = false :=
  ⟨frozen_of_row _ _ 0 _ _ h, frozen_of_row _ _ 1 _ _ h, frozen_of_row _ _ 2 _ _ h, frozen_of_row _ _ 3 _ _ h⟩
theorem fb_b4 {w w4 : World} {b : Nat} {x0 x1 x2 x3 : Value} (h : Below w.heap.size w w4) (g : w.heap.size ≤ b) : Below w.heap.size w ((((w4.setCell ⟨b, 0, none⟩ x0).setCell ⟨b, 1, none⟩ x1).setCell ⟨b, 2, none⟩ x2).setCell ⟨b, 3, none⟩ x3) :=
  (((h.setCell (p := ⟨b, 0, none⟩) g _).setCell (p := ⟨b, 1, none⟩) g _).setCell (p := ⟨b, 2, none⟩) g _).setCell (p := ⟨b, 3, none⟩) g _
set_option maxHeartbeats 1000000 in
theorem stepBlock_timer (o a b : Bool) (s c n now : Int) (hv : fbOKB 1 o s c = true) (hn : inI32 n = true) (hw : fbIn now 0 2147483647 = true) (w : World) (ht : FbTab w) :
    Calls Tryd.prog 163 #[fbE 1 o s c, .bool a, .bool b, .int .i64 n, .int .i64 now] w fun e w' => e = .returned (.tuple #[fbE 1 a (tmS o a s now) (tmC o a s n now), .bool (tmQ o a s n now), .int .i64 0]) ∧ Below w.heap.size w w' := by
  have HK : Hid (fbOKB 1 o s c = true) := Lib.hid hv
  have hs : 0 ≤ s ∧ s ≤ 2147483647 := by
    rw [fbOK_1] at hv
    simp only [Bool.and_eq_true] at hv
    exact of_decide_eq_true hv.1
  have hn' := inI32_bd hn
  have hw' : 0 ≤ now ∧ now ≤ 2147483647 := of_decide_eq_true hw
  have Hn := Lib.hid hn
  have Hw := Lib.hid hw
  have b0 : Below w.heap.size w (w.alloc (fbO 1 o s c)) := (Below.refl w.heap.size w).alloc (Nat.le_refl _) _
  have Hb := Lib.hid (b0.alloc b0.size (fbO 0 false 0 0))
  have Ht := Lib.hid (ht.below Hb.out (Nat.le_refl _))
  clear ht hn hw b0 hv
  go_enter Tryd.func163, Tryd.ntmps163
  go_wp2_with fail
  refine (fbOK_is HK.out _ Ht.out).mono ?_
  rintro e w1 ⟨rfl, hb1⟩
  have Hb1 := Lib.hid (Hb.out.trans (hb1.mono Hb.out.size))
  obtain ⟨k1, k2, hz1⟩ := fb_keep2 hb1
  obtain ⟨c0, c1, c2, c3⟩ := fb_cells k1
  have K2 := Lib.hid k2
  clear hb1 k1 k2
  go_wp2_with first | (go_at_call 58; refine (fb_isValue_is Hn.out _).mono ?_; rintro e w' ⟨rfl, rfl⟩) | (go_at_call 94; refine (isTime_is Hw.out _).mono ?_; rintro e w' ⟨rfl, rfl⟩)
  refine (blockOf_timer o s c _).mono ?_
  rintro e w2 ⟨rfl, hw2⟩
  have hb2 : Below w1.heap.size w1 w2 := by rw [hw2]; exact ((Below.refl w1.heap.size w1).alloc (Nat.le_refl _) _).alloc (by simp) _
  have hk2 : w2.heap[w1.heap.size + 1]? = some (tmO o s c) := by rw [hw2]; exact heap_alloc2_new w1 _ _
  have hz2 : w1.heap.size + 1 < w2.heap.size := by rw [hw2]; simp
  have k2' := (hb2.block _ hz1).trans K2.out
  have Hb2 := Lib.hid (Hb1.out.trans (hb2.mono Hb1.out.size))
  have K2' := Lib.hid k2'
  have HK2 := Lib.hid hk2
  clear hw2 hb2 k2' hk2 c0 c1 c2 c3
  go_wp2_with fail
  refine (timer_step o a b s c n now hs hn' hw' _ _ HK2.out).mono ?_
  rintro e w3 ⟨rfl, hg3, hk3⟩
  have hz3 := hg3.size
  have K3 := Lib.hid ((hg3.block (w.heap.size + 1) (by omega) (by intro e; injection e; omega)).trans K2'.out)
  have Hb3 := Lib.hid (Hb2.out.grown hg3 Hb2.out.size (by intro k hk; cases hk; omega))
  have HK3 := Lib.hid hk3
  clear hg3 hk3
  go_wp2_with fail
  refine (timer_state a (tmS o a s now) (tmC o a s n now) _ _ HK3.out (by omega)).mono ?_
  rintro e w4 ⟨rfl, hb4⟩
  have k4 := (hb4.block (w.heap.size + 1) (by omega)).trans K3.out
  have hz4 := hb4.size
  have Hb4 := Lib.hid (Hb3.out.trans (hb4.mono Hb3.out.size))
  obtain ⟨d0, d1, d2, d3⟩ := fb_cells k4
  obtain ⟨q0, q1, q2, q3⟩ := fb_blk k4
  clear hb4 k4 hz1 hz2 hz3 hz4
  go_wp2
  refine bodyPost_ret (v := .tuple #[fbE 1 a (tmS o a s now) (tmC o a s n now), .bool (tmQ o a s n now), .int .i64 0]) (by simp [results, Tryd.results163, go_sem, d0, d1, d2, d3]) rfl ⟨rfl, ?_⟩
  exact fb_b4 Hb4.out (by omega)
set_option maxHeartbeats 1000000 in
theorem stepBlock_counter (o a b : Bool) (c n now : Int) (hv : fbOKB 2 o 0 c = true) (hn : inI32 n = true) (hw : fbIn now 0 2147483647 = true) (w : World) (ht : FbTab w) :
    Calls Tryd.prog 163 #[fbE 2 o 0 c, .bool a, .bool b, .int .i64 n, .int .i64 now] w fun e w' => e = .returned (.tuple #[fbE 2 a 0 (ctC o a b c), .bool (ctQ o a b c n), .int .i64 0]) ∧ Below w.heap.size w w' := by
  have HK : Hid (fbOKB 2 o 0 c = true) := Lib.hid hv
  have hc : 0 ≤ c ∧ c ≤ 2147483647 := by
    rw [fbOK_2] at hv
    simp only [Bool.and_eq_true] at hv
    exact of_decide_eq_true hv.2
  have hn' := inI32_bd hn
  have Hn := Lib.hid hn
  have Hw := Lib.hid hw
  have b0 : Below w.heap.size w (w.alloc (fbO 2 o 0 c)) := (Below.refl w.heap.size w).alloc (Nat.le_refl _) _
  have Hb := Lib.hid (b0.alloc b0.size (fbO 0 false 0 0))
  have Ht := Lib.hid (ht.below Hb.out (Nat.le_refl _))
  clear ht hn hw b0 hv
  go_enter Tryd.func163, Tryd.ntmps163
  go_wp2_with fail
  refine (fbOK_is HK.out _ Ht.out).mono ?_
  rintro e w1 ⟨rfl, hb1⟩
  have Hb1 := Lib.hid (Hb.out.trans (hb1.mono Hb.out.size))
  obtain ⟨k1, k2, hz1⟩ := fb_keep2 hb1
  obtain ⟨c0, c1, c2, c3⟩ := fb_cells k1
  have K2 := Lib.hid k2
  clear hb1 k1 k2
  go_wp2_with first | (go_at_call 58; refine (fb_isValue_is Hn.out _).mono ?_; rintro e w' ⟨rfl, rfl⟩) | (go_at_call 94; refine (isTime_is Hw.out _).mono ?_; rintro e w' ⟨rfl, rfl⟩)
  refine (blockOf_counter o c _).mono ?_
  rintro e w2 ⟨rfl, hw2⟩
  have hb2 : Below w1.heap.size w1 w2 := by rw [hw2]; exact ((Below.refl w1.heap.size w1).alloc (Nat.le_refl _) _).alloc (by simp) _
  have hk2 : w2.heap[w1.heap.size + 1]? = some (ctO o c) := by rw [hw2]; exact heap_alloc2_new w1 _ _
  have hz2 : w1.heap.size + 1 < w2.heap.size := by rw [hw2]; simp
  have k2' := (hb2.block _ hz1).trans K2.out
  have Hb2 := Lib.hid (Hb1.out.trans (hb2.mono Hb1.out.size))
  have K2' := Lib.hid k2'
  have HK2 := Lib.hid hk2
  clear hw2 hb2 k2' hk2 c0 c1 c2 c3
  go_wp2_with fail
  refine (counter_step o a b c n now hc hn' _ _ HK2.out).mono ?_
  rintro e w3 ⟨rfl, hg3, hk3⟩
  have hz3 := hg3.size
  have K3 := Lib.hid ((hg3.block (w.heap.size + 1) (by omega) (by intro e; injection e; omega)).trans K2'.out)
  have Hb3 := Lib.hid (Hb2.out.grown hg3 Hb2.out.size (by intro k hk; cases hk; omega))
  have HK3 := Lib.hid hk3
  clear hg3 hk3
  go_wp2_with fail
  refine (counter_state a (ctC o a b c) _ _ HK3.out (by omega)).mono ?_
  rintro e w4 ⟨rfl, hb4⟩
  have k4 := (hb4.block (w.heap.size + 1) (by omega)).trans K3.out
  have hz4 := hb4.size
  have Hb4 := Lib.hid (Hb3.out.trans (hb4.mono Hb3.out.size))
  obtain ⟨d0, d1, d2, d3⟩ := fb_cells k4
  obtain ⟨q0, q1, q2, q3⟩ := fb_blk k4
  clear hb4 k4 hz1 hz2 hz3 hz4
  go_wp2
  refine bodyPost_ret (v := .tuple #[fbE 2 a 0 (ctC o a b c), .bool (ctQ o a b c n), .int .i64 0]) (by simp [results, Tryd.results163, go_sem, d0, d1, d2, d3]) rfl ⟨rfl, ?_⟩
  exact fb_b4 Hb4.out (by omega)
set_option maxHeartbeats 1000000 in
theorem stepBlock_edge (o a b : Bool) (n now : Int) (hn : inI32 n = true) (hw : fbIn now 0 2147483647 = true) (w : World) (ht : FbTab w) :
    Calls Tryd.prog 163 #[fbE 3 o 0 0, .bool a, .bool b, .int .i64 n, .int .i64 now] w fun e w' => e = .returned (.tuple #[fbE 3 a 0 0, .bool ((a && !o)), .int .i64 0]) ∧ Below w.heap.size w w' := by
  have HK : Hid (fbOKB 3 o 0 0 = true) := Lib.hid rfl
  have Hn := Lib.hid hn
  have Hw := Lib.hid hw
  have b0 : Below w.heap.size w (w.alloc (fbO 3 o 0 0)) := (Below.refl w.heap.size w).alloc (Nat.le_refl _) _
  have Hb := Lib.hid (b0.alloc b0.size (fbO 0 false 0 0))
  have Ht := Lib.hid (ht.below Hb.out (Nat.le_refl _))
  clear ht hn hw b0
  go_enter Tryd.func163, Tryd.ntmps163
  go_wp2_with fail
  refine (fbOK_is HK.out _ Ht.out).mono ?_
  rintro e w1 ⟨rfl, hb1⟩
  have Hb1 := Lib.hid (Hb.out.trans (hb1.mono Hb.out.size))
  obtain ⟨k1, k2, hz1⟩ := fb_keep2 hb1
  obtain ⟨c0, c1, c2, c3⟩ := fb_cells k1
  have K2 := Lib.hid k2
  clear hb1 k1 k2
  go_wp2_with first | (go_at_call 58; refine (fb_isValue_is Hn.out _).mono ?_; rintro e w' ⟨rfl, rfl⟩) | (go_at_call 94; refine (isTime_is Hw.out _).mono ?_; rintro e w' ⟨rfl, rfl⟩)
  refine (blockOf_edge o _).mono ?_
  rintro e w2 ⟨rfl, hw2⟩
  have hb2 : Below w1.heap.size w1 w2 := by rw [hw2]; exact ((Below.refl w1.heap.size w1).alloc (Nat.le_refl _) _).alloc (by simp) _
  have hk2 : w2.heap[w1.heap.size + 1]? = some (egO o) := by rw [hw2]; exact heap_alloc2_new w1 _ _
  have hz2 : w1.heap.size + 1 < w2.heap.size := by rw [hw2]; simp
  have k2' := (hb2.block _ hz1).trans K2.out
  have Hb2 := Lib.hid (Hb1.out.trans (hb2.mono Hb1.out.size))
  have K2' := Lib.hid k2'
  have HK2 := Lib.hid hk2
  clear hw2 hb2 k2' hk2 c0 c1 c2 c3
  go_wp2_with fail
  refine (edge_step o a b n now _ _ HK2.out).mono ?_
  rintro e w3 ⟨rfl, hg3, hk3⟩
  have hz3 := hg3.size
  have K3 := Lib.hid ((hg3.block (w.heap.size + 1) (by omega) (by intro e; injection e; omega)).trans K2'.out)
  have Hb3 := Lib.hid (Hb2.out.grown hg3 Hb2.out.size (by intro k hk; cases hk; omega))
  have HK3 := Lib.hid hk3
  clear hg3 hk3
  go_wp2_with fail
  refine (edge_state a _ _ HK3.out (by omega)).mono ?_
  rintro e w4 ⟨rfl, hb4⟩
  have k4 := (hb4.block (w.heap.size + 1) (by omega)).trans K3.out
  have hz4 := hb4.size
  have Hb4 := Lib.hid (Hb3.out.trans (hb4.mono Hb3.out.size))
  obtain ⟨d0, d1, d2, d3⟩ := fb_cells k4
  obtain ⟨q0, q1, q2, q3⟩ := fb_blk k4
  clear hb4 k4 hz1 hz2 hz3 hz4
  go_wp2
  refine bodyPost_ret (v := .tuple #[fbE 3 a 0 0, .bool ((a && !o)), .int .i64 0]) (by simp [results, Tryd.results163, go_sem, d0, d1, d2, d3]) rfl ⟨rfl, ?_⟩
  exact fb_b4 Hb4.out (by omega)
set_option maxHeartbeats 1000000 in
theorem stepBlock_latch (o a b : Bool) (n now : Int) (hn : inI32 n = true) (hw : fbIn now 0 2147483647 = true) (w : World) (ht : FbTab w) :
    Calls Tryd.prog 163 #[fbE 4 o 0 0, .bool a, .bool b, .int .i64 n, .int .i64 now] w fun e w' => e = .returned (.tuple #[fbE 4 (laF o a b) 0 0, .bool (laF o a b), .int .i64 0]) ∧ Below w.heap.size w w' := by
  have HK : Hid (fbOKB 4 o 0 0 = true) := Lib.hid rfl
  have Hn := Lib.hid hn
  have Hw := Lib.hid hw
  have b0 : Below w.heap.size w (w.alloc (fbO 4 o 0 0)) := (Below.refl w.heap.size w).alloc (Nat.le_refl _) _
  have Hb := Lib.hid (b0.alloc b0.size (fbO 0 false 0 0))
  have Ht := Lib.hid (ht.below Hb.out (Nat.le_refl _))
  clear ht hn hw b0
  go_enter Tryd.func163, Tryd.ntmps163
  go_wp2_with fail
  refine (fbOK_is HK.out _ Ht.out).mono ?_
  rintro e w1 ⟨rfl, hb1⟩
  have Hb1 := Lib.hid (Hb.out.trans (hb1.mono Hb.out.size))
  obtain ⟨k1, k2, hz1⟩ := fb_keep2 hb1
  obtain ⟨c0, c1, c2, c3⟩ := fb_cells k1
  have K2 := Lib.hid k2
  clear hb1 k1 k2
  go_wp2_with first | (go_at_call 58; refine (fb_isValue_is Hn.out _).mono ?_; rintro e w' ⟨rfl, rfl⟩) | (go_at_call 94; refine (isTime_is Hw.out _).mono ?_; rintro e w' ⟨rfl, rfl⟩)
  refine (blockOf_latch o _).mono ?_
  rintro e w2 ⟨rfl, hw2⟩
  have hb2 : Below w1.heap.size w1 w2 := by rw [hw2]; exact ((Below.refl w1.heap.size w1).alloc (Nat.le_refl _) _).alloc (by simp) _
  have hk2 : w2.heap[w1.heap.size + 1]? = some (laO o) := by rw [hw2]; exact heap_alloc2_new w1 _ _
  have hz2 : w1.heap.size + 1 < w2.heap.size := by rw [hw2]; simp
  have k2' := (hb2.block _ hz1).trans K2.out
  have Hb2 := Lib.hid (Hb1.out.trans (hb2.mono Hb1.out.size))
  have K2' := Lib.hid k2'
  have HK2 := Lib.hid hk2
  clear hw2 hb2 k2' hk2 c0 c1 c2 c3
  go_wp2_with fail
  refine (latch_step o a b n now _ _ HK2.out).mono ?_
  rintro e w3 ⟨rfl, hg3, hk3⟩
  have hz3 := hg3.size
  have K3 := Lib.hid ((hg3.block (w.heap.size + 1) (by omega) (by intro e; injection e; omega)).trans K2'.out)
  have Hb3 := Lib.hid (Hb2.out.grown hg3 Hb2.out.size (by intro k hk; cases hk; omega))
  have HK3 := Lib.hid hk3
  clear hg3 hk3
  go_wp2_with fail
  refine (latch_state (laF o a b) _ _ HK3.out (by omega)).mono ?_
  rintro e w4 ⟨rfl, hb4⟩
  have k4 := (hb4.block (w.heap.size + 1) (by omega)).trans K3.out
  have hz4 := hb4.size
  have Hb4 := Lib.hid (Hb3.out.trans (hb4.mono Hb3.out.size))
  obtain ⟨d0, d1, d2, d3⟩ := fb_cells k4
  obtain ⟨q0, q1, q2, q3⟩ := fb_blk k4
  clear hb4 k4 hz1 hz2 hz3 hz4
  go_wp2
  refine bodyPost_ret (v := .tuple #[fbE 4 (laF o a b) 0 0, .bool (laF o a b), .int .i64 0]) (by simp [results, Tryd.results163, go_sem, d0, d1, d2, d3]) rfl ⟨rfl, ?_⟩
  exact fb_b4 Hb4.out (by omega)
end Go.Proofs.YtgiegppakoiaiaaDoor
