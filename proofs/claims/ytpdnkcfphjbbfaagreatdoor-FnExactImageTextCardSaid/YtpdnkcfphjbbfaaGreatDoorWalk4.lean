/- A walk of impl's verifier: what an instruction names; its effect. -/
import Derived.Test.YtpdnkcfphjbbfaaGreatDoorWalk
import Derived.Test.YtpdnkcfphjbbfaaGreatDoorInsOK
import Derived.Test.YtpdnkcfphjbbfaaGreatDoorHeld
namespace Go.Proofs.YtpdnkcfphjbbfaaGreatDoor
open Go.ChangeShapes Go.WideShapes Go.ChangeAt Go.RowKit
set_option linter.unusedVariables false
theorem quiet_add_left {P : Program} {f : FuncId} {args : Array Value} {w : World} {a n : Nat} {v : Value}
    (h : Calls P f args (w.drewN (a + n)) fun e w' => e = .returned v ∧ w.drewN (a + n) = w') :
    Calls P f args (w.drewN (a + n)) fun e w'' => e = .returned v ∧ ∃ m, w'' = w.drewN (a + m) :=
  h.mono fun _ _ ⟨he, hm⟩ => ⟨he, n, hm.symm⟩
theorem quiet_left {P : Program} {f : FuncId} {args : Array Value} {w : World} {n : Nat} {v : Value}
    (h : Calls P f args (w.drewN n) fun e w' => e = .returned v ∧ w.drewN n = w') : Calls P f args (w.drewN n) fun e w'' => e = .returned v ∧ ∃ m, w'' = w.drewN m :=
  h.mono fun _ _ ⟨he, hm⟩ => ⟨he, n, hm.symm⟩
def namesB (o : Int) : Bool := o == 19 || o == 20
theorem namesBlock_any (o : Int) (w : World) : Calls Tryz.prog 204 #[.int .i64 o] w fun e w' => e = .returned (.bool (namesB o)) ∧ w = w' := by
  go_enter Tryz.func204, Tryz.ntmps204
  go_wp2
  all_goals (go_ret; refine ⟨fb_rb ?_, rfl⟩; simp_all [namesB])
theorem namesBlock_is {o : Int} {b : Bool} (h : namesB o = b) (w : World) : Calls Tryz.prog 204 #[.int .i64 o] w fun e w' => e = .returned (.bool b) ∧ w = w' := h ▸ namesBlock_any o w
theorem find_plain (p : Nat) (o y : Int) (w : World) (h19 : (o == 19) = false) (h20 : (o == 20) = false) (h26 : (o == 26) = false) :
    Calls Tryz.prog 199 #[.pointer (some ⟨p, 0, none⟩), .agg #[.int .i64 o, .int .i64 y]] w fun e w' => e = .returned (.tuple #[]) ∧ Below w.heap.size w w' := by
  have hn : namesB o = false := by unfold namesB; rw [h19, h20]; rfl
  have HN := Lib.hid hn
  have h26' : (o != 26) = true := by simp [bne, h26]
  clear hn
  go_enter Tryz.func199, Tryz.ntmps199
  go_wp2_with fail
  go_quiet ((first | (go_at_call 204; exact quiet_left (namesBlock_is HN.out _)) | (go_at_call 191; exact quiet_left (require_ok _ _ _))))
  go_wp2_with fail
  go_quiet ((go_at_call 191; exact quiet_add_left (require_ok _ _ _)))
  go_wp2
  go_end0
  exact ⟨rfl, bel_dn (bel_dn ((Below.refl _ _).alloc (Nat.le_refl _) _) _) _⟩
theorem find_block_ok (p n c : Nat) (k : Option Addr) (o y : Int) (ho : o = 19 ∨ o = 20) (hy : y < n) (w : World) (hp : p < w.heap.size) (h0 : w.cell? ⟨p, 0, none⟩ = some (.slice k n c)) :
    Calls Tryz.prog 199 #[.pointer (some ⟨p, 0, none⟩), .agg #[.int .i64 o, .int .i64 y]] w fun e w' => e = .returned (.tuple #[]) ∧ Below w.heap.size w w' := by
  have hd : decide (y < (n : Int)) = true := decide_eq_true (by omega)
  rcases ho with rfl | rfl
  all_goals
    go_enter Tryz.func199, Tryz.ntmps199
    go_wp2_with fail
    go_quiet ((first | (go_at_call 204; exact quiet_left (namesBlock_is (b := true) rfl _)) | (go_at_call 191; exact quiet_left (require_ok _ _ _))))
    go_wp2_with fail
    go_quiet ((go_at_call 191; exact quiet_add_left (require_ok _ _ _)))
    go_wp2
    go_end0
    exact ⟨rfl, bel_dn (bel_dn ((Below.refl _ _).alloc (Nat.le_refl _) _) _) _⟩
set_option maxHeartbeats 1000000 in
theorem find_call_ok (p : Nat) (y r : Int) (hy : y < r) (w : World) (hp : p < w.heap.size) (h1 : w.cell? ⟨p, 1, none⟩ = some (.int .i64 r)) :
    Calls Tryz.prog 199 #[.pointer (some ⟨p, 0, none⟩), .agg #[.int .i64 26, .int .i64 y]] w fun e w' => e = .returned (.tuple #[]) ∧ Below w.heap.size w w' := by
  have hd : decide (y < r) = true := decide_eq_true hy
  clear hy
  go_enter Tryz.func199, Tryz.ntmps199
  go_wp2_with fail
  go_quiet ((first | (go_at_call 204; exact quiet_left (namesBlock_is (b := false) rfl _)) | (go_at_call 191; exact quiet_left (require_ok _ _ _))))
  go_wp2_with fail
  go_quiet ((go_at_call 191; exact quiet_add_left (require_ok _ _ _)))
  go_wp2
  go_end0
  exact ⟨rfl, bel_dn (bel_dn ((Below.refl _ _).alloc (Nat.le_refl _) _) _) _⟩
set_option maxHeartbeats 1000000 in
theorem find_call_no (p : Nat) (y r i : Int) (hy : r ≤ y) (w : World) (hp : p < w.heap.size) (h1 : w.cell? ⟨p, 1, none⟩ = some (.int .i64 r)) (h2 : w.cell? ⟨p, 2, none⟩ = some (.int .i64 i)) :
    Calls Tryz.prog 199 #[.pointer (some ⟨p, 0, none⟩), .agg #[.int .i64 26, .int .i64 y]] w fun e w' => e = Off i 15 ∧ Below w.heap.size w w' := by
  have hd : decide (y < r) = false := decide_eq_false (by omega)
  clear hy
  go_enter Tryz.func199, Tryz.ntmps199
  go_wp2_with fail
  go_quiet ((first | (go_at_call 204; exact quiet_left (namesBlock_is (b := false) rfl _)) | (go_at_call 191; exact quiet_left (require_ok _ _ _))))
  go_wp2_with fail
  go_region_dies
  all_goals
    refine Calls.mono (require_no _ _ i _ (by exact (((Below.refl w.heap.size w).alloc (Nat.le_refl _) _).cell (p := ⟨p, 2, none⟩) hp).trans h2)) ?_
    rintro e w' ⟨rfl, rfl⟩
    exact ⟨rfl, rfl, bel_dn ((Below.refl _ _).alloc (Nat.le_refl _) _) _⟩
set_option maxRecDepth 100000 in
set_option maxHeartbeats 1000000 in
theorem find_block_no1 (p n c : Nat) (k : Option Addr) (o y i : Int) (hn : namesB o = true) (hy : (n : Int) ≤ y) (w : World) (hp : p < w.heap.size) (h0 : w.cell? ⟨p, 0, none⟩ = some (.slice k n c)) (h2 : w.cell? ⟨p, 2, none⟩ = some (.int .i64 i)) :
    Calls Tryz.prog 199 #[.pointer (some ⟨p, 0, none⟩), .agg #[.int .i64 o, .int .i64 y]] w fun e w' => e = Off i 5 ∧ Below w.heap.size w w' := by
  have hd : decide (y < (n : Int)) = false := decide_eq_false (by omega)
  have HN := Lib.hid hn
  have HSW : Hid (∃ q, (w.alloc (.cells #[.int .i64 o, .int .i64 y] 137)).drew = (w.alloc (.cells #[.int .i64 o, .int .i64 y] 137)).drewN q) := Lib.hid ⟨1, rfl⟩
  have H2 := Lib.hid ((((Below.refl w.heap.size w).alloc (Nat.le_refl _) (.cells #[.int .i64 o, .int .i64 y] 137)).cell (p := ⟨p, 2, none⟩) hp).trans h2)
  clear hn hy h2
  go_enter Tryz.func199, Tryz.ntmps199
  go_wp2_with fail
  refine wp_region_hl 15 (fun X => ∃ q, X = (w.alloc (.cells #[.int .i64 o, .int .i64 y] 137)).drewN q) (by kernel_rfl) rfl rfl (by kernel_rfl) ?_
  refine hl_take (v := ?v0) 0 rfl (by kernel_rfl) (fun _ _ _ h => h) (Or.inl ⟨by rfl, ?hy0⟩) HSW.out ?rest0
  case hy0 =>
    rintro X ⟨q, rfl⟩
    go_simp <;> with_reducible rfl
  try simp only [Act.put, List.setIfInBounds_toArray, List.set_cons_zero, List.set_cons_succ]
  refine hl_take (v := ?v1) 1 rfl (by kernel_rfl) (fun _ _ _ h => h) (Or.inl ⟨by rfl, ?hy1⟩) HSW.out ?rest1
  case hy1 =>
    rintro X ⟨q, rfl⟩
    go_simp <;> with_reducible rfl
  try simp only [Act.put, List.setIfInBounds_toArray, List.set_cons_zero, List.set_cons_succ]
  refine hl_take (v := ?v2) 2 rfl (by kernel_rfl) (fun _ _ _ h => h) (Or.inl ⟨by rfl, ?hy2⟩) HSW.out ?rest2
  case hy2 =>
    rintro X ⟨q, rfl⟩
    go_simp <;> with_reducible rfl
  try simp only [Act.put, List.setIfInBounds_toArray, List.set_cons_zero, List.set_cons_succ]
  refine hl_one 3 rfl (by kernel_rfl) (fun K hK => ?_)
  go_simp
  refine Calls.mono (namesBlock_is HN.out _) ?_
  rintro e w' ⟨rfl, rfl⟩
  refine hK.out _ _ HSW.out ?_
  clear hK
  try simp only [Act.put, List.setIfInBounds_toArray, List.set_cons_zero, List.set_cons_succ]
  refine hl_take (v := ?v4) 4 rfl (by kernel_rfl) (fun _ _ _ h => h) (Or.inl ⟨by rfl, ?hy4⟩) HSW.out ?rest4
  case hy4 =>
    rintro X ⟨q, rfl⟩
    go_simp <;> with_reducible rfl
  try simp only [Act.put, List.setIfInBounds_toArray, List.set_cons_zero, List.set_cons_succ]
  refine hl_take (v := ?v5) 5 rfl (by kernel_rfl) (fun _ _ _ h => h) (Or.inl ⟨by rfl, ?hy5⟩) HSW.out ?rest5
  case hy5 =>
    rintro X ⟨q, rfl⟩
    go_simp <;> with_reducible rfl
  try simp only [Act.put, List.setIfInBounds_toArray, List.set_cons_zero, List.set_cons_succ]
  refine hl_take (v := ?v6) 6 rfl (by kernel_rfl) (fun _ _ _ h => h) (Or.inl ⟨by rfl, ?hy6⟩) HSW.out ?rest6
  case hy6 =>
    rintro X ⟨q, rfl⟩
    go_simp <;> with_reducible rfl
  try simp only [Act.put, List.setIfInBounds_toArray, List.set_cons_zero, List.set_cons_succ]
  refine hl_take (v := ?v7) 7 rfl (by kernel_rfl) (fun _ _ _ h => h) (Or.inl ⟨by rfl, ?hy7⟩) HSW.out ?rest7
  case hy7 =>
    rintro X ⟨q, rfl⟩
    go_simp <;> with_reducible rfl
  try simp only [Act.put, List.setIfInBounds_toArray, List.set_cons_zero, List.set_cons_succ]
  refine hl_take (v := ?v8) 8 rfl (by kernel_rfl) (fun _ _ _ h => h) (Or.inl ⟨by rfl, ?hy8⟩) HSW.out ?rest8
  case hy8 =>
    rintro X ⟨q, rfl⟩
    go_simp <;> with_reducible rfl
  try simp only [Act.put, List.setIfInBounds_toArray, List.set_cons_zero, List.set_cons_succ]
  refine hl_take (v := ?v9) 9 rfl (by kernel_rfl) (fun _ _ _ h => h) (Or.inl ⟨by rfl, ?hy9⟩) HSW.out ?rest9
  case hy9 =>
    rintro X ⟨q, rfl⟩
    go_simp <;> with_reducible rfl
  try simp only [Act.put, List.setIfInBounds_toArray, List.set_cons_zero, List.set_cons_succ]
  refine hl_take (v := ?v10) 10 rfl (by kernel_rfl) (fun _ _ _ h => h) (Or.inl ⟨by rfl, ?hy10⟩) HSW.out ?rest10
  case hy10 =>
    rintro X ⟨q, rfl⟩
    go_simp <;> with_reducible rfl
  try simp only [Act.put, List.setIfInBounds_toArray, List.set_cons_zero, List.set_cons_succ]
  refine hl_take (v := ?v11) 11 rfl (by kernel_rfl) (fun _ _ _ h => h) (Or.inl ⟨by rfl, ?hy11⟩) HSW.out ?rest11
  case hy11 =>
    rintro X ⟨q, rfl⟩
    go_simp <;> with_reducible rfl
  try simp only [Act.put, List.setIfInBounds_toArray, List.set_cons_zero, List.set_cons_succ]
  refine hl_take (v := ?v12) 12 rfl (by kernel_rfl) (fun _ _ _ h => h) (Or.inl ⟨by rfl, ?hy12⟩) HSW.out ?rest12
  case hy12 =>
    rintro X ⟨q, rfl⟩
    go_simp <;> with_reducible rfl
  try simp only [Act.put, List.setIfInBounds_toArray, List.set_cons_zero, List.set_cons_succ]
  refine hl_take (v := ?v13) 13 rfl (by kernel_rfl) (fun _ _ _ h => h) (Or.inl ⟨by rfl, ?hy13⟩) HSW.out ?rest13
  case hy13 =>
    rintro X ⟨q, rfl⟩
    go_simp <;> with_reducible rfl
  try simp only [Act.put, List.setIfInBounds_toArray, List.set_cons_zero, List.set_cons_succ]
  refine hl_take (v := ?v14) 14 rfl (by kernel_rfl) (fun _ _ _ h => h) (Or.inl ⟨by rfl, ?hy14⟩) HSW.out ?rest14
  case hy14 =>
    rintro X ⟨q, rfl⟩
    go_simp <;> with_reducible rfl
  try simp only [Act.put, List.setIfInBounds_toArray, List.set_cons_zero, List.set_cons_succ]
  refine hl_done (by kernel_rfl) ?_
  go_simp
  refine Calls.mono (require_no _ _ i _ (by exact H2.out)) ?_
  rintro e w' ⟨rfl, rfl⟩
  exact ⟨rfl, rfl, bel_dn ((Below.refl _ _).alloc (Nat.le_refl _) _) 1⟩
theorem find_block_no (p n c : Nat) (k : Option Addr) (o y i : Int) (ho : o = 19 ∨ o = 20) (hy : (n : Int) ≤ y) (w : World) (hp : p < w.heap.size) (h0 : w.cell? ⟨p, 0, none⟩ = some (.slice k n c)) (h2 : w.cell? ⟨p, 2, none⟩ = some (.int .i64 i)) :
    Calls Tryz.prog 199 #[.pointer (some ⟨p, 0, none⟩), .agg #[.int .i64 o, .int .i64 y]] w fun e w' => e = Off i 5 ∧ Below w.heap.size w w' :=
  find_block_no1 p n c k o y i (by rcases ho with rfl | rfl <;> rfl) hy w hp h0 h2
theorem effTab_two {w : World} (ht : EffTab w) (O O' : Obj) : EffTab ((w.alloc O).alloc O') :=
  ht.below (B := w.heap.size) (((Below.refl w.heap.size w).alloc (Nat.le_refl _) O).alloc (by simp) O') (Nat.le_refl _)
theorem effectOf_plain (k : Nat) (y : Int) (a : Option Addr) (n c : Nat) (hk : k < 27) (h19 : ((k : Int) == 19) = false) (w : World) (ht : EffTab w) :
    Calls Tryz.prog 200 #[.agg #[.int .i64 k, .int .i64 y], .slice a n c] w fun e w' => e = .returned (.agg #[.string (effT k), .string (effG k)]) ∧ Below w.heap.size w w' := by
  obtain ⟨c0, c1⟩ := effTab_two ht (.cells #[.int .i64 k, .int .i64 y] 137) (.cells #[.string ⟨#[]⟩, .string ⟨#[]⟩] 243) k hk
  clear ht
  generalize effT k = T at *
  generalize effG k = G at *
  go_enter Tryz.func200, Tryz.ntmps200
  go_wp2
  refine bodyPost_ret (v := .agg #[.string T, .string G]) (by simp [results, Tryz.results200, go_sem]) rfl ⟨rfl, ?_⟩
  exact (((Below.refl w.heap.size w).alloc (Nat.le_refl _) _).alloc (by simp) _).alloc (by simp; omega) _
theorem effectOf_block (b o n c : Nat) (ks : List Int) (y : Nat) (hy : y < n) (w : World) (ht : EffTab w) (hf : FbTab w) (hb : b < w.heap.size) (hk : w.cell? ⟨b, o + y, none⟩ = some (.int .i64 (ks.getD y 0))) :
    Calls Tryz.prog 200 #[.agg #[.int .i64 19, .int .i64 y], .slice (some ⟨b, o, none⟩) n c] w fun e w' => e = .returned (.agg #[.string (takesF (ks.getD y 0)), .string ⟨#[98]⟩]) ∧ Below w.heap.size w w' := by
  obtain ⟨c0, c1⟩ := effTab_two ht (.cells #[.int .i64 19, .int .i64 y] 137) (.cells #[.string ⟨#[]⟩, .string ⟨#[]⟩] 243) 19 (by omega)
  have e0 : effT 19 = ⟨#[]⟩ := rfl
  have e1 : effG 19 = ⟨#[98]⟩ := rfl
  rw [e0] at c0
  rw [e1] at c1
  have hB : ∀ O O' O'' : Obj, Below w.heap.size w (((w.alloc O).alloc O').alloc O'') := fun O O' O'' => (((Below.refl w.heap.size w).alloc (Nat.le_refl _) O).alloc (by simp) O').alloc (by simp; omega) O''
  have HF : Hid (∀ (O O' O'' : Obj), FbTab (((w.alloc O).alloc O').alloc O'')) := Lib.hid (fun O O' O'' => hf.below (hB O O' O'') (Nat.le_refl _))
  have d1 : ∀ O O' O'' : Obj, (((w.alloc O).alloc O').alloc O'').cell? ⟨b, o + y, none⟩ = some (.int .i64 (ks.getD y 0)) := fun O O' O'' => ((hB O O' O'').cell (p := ⟨b, o + y, none⟩) hb).trans hk
  have HB := Lib.hid hB
  clear ht hf e0 e1 hB hk hb
  generalize ks.getD y 0 = z at *
  go_enter Tryz.func200, Tryz.ntmps200
  go_wp2_with fail
  refine Calls.mono (takesOf_any z _ (by exact HF.out _ _ _)) ?_
  rintro e w' ⟨rfl, rfl⟩
  go_wp2
  all_goals
    refine bodyPost_ret (v := .agg #[.string (takesF z), .string ⟨#[98]⟩]) (by simp [results, Tryz.results200, go_sem]) rfl ⟨rfl, ?_⟩
    exact HB.out _ _ _
end Go.Proofs.YtpdnkcfphjbbfaaGreatDoor
