/- A walk of impl's verifier: what an instruction names; its effect. -/
import Derived.Test.YtmpppfibeoghaaaGreatDoorWalk
import Derived.Test.YtmpppfibeoghaaaGreatDoorInsOK
import Derived.Test.YtmpppfibeoghaaaGreatDoorHeld
import Derived.Test.YtmpppfibeoghaaaGreatDoorVer
import Derived.OneCell
namespace Go.Proofs.YtmpppfibeoghaaaGreatDoor
open Go.ChangeShapes Go.WideShapes Go.ChangeAt Go.RowKit
set_option linter.unusedVariables false
theorem quiet_add_left {P : Program} {f : FuncId} {args : Array Value} {w : World} {a n : Nat} {v : Value}
    (h : Calls P f args (w.drewN (a + n)) fun e w' => e = .returned v ∧ w.drewN (a + n) = w') :
    Calls P f args (w.drewN (a + n)) fun e w'' => e = .returned v ∧ ∃ m, w'' = w.drewN (a + m) :=
  h.mono fun _ _ ⟨he, hm⟩ => ⟨he, n, hm.symm⟩
theorem quiet_left {P : Program} {f : FuncId} {args : Array Value} {w : World} {n : Nat} {v : Value}
    (h : Calls P f args (w.drewN n) fun e w' => e = .returned v ∧ w.drewN n = w') : Calls P f args (w.drewN n) fun e w'' => e = .returned v ∧ ∃ m, w'' = w.drewN m :=
  h.mono fun _ _ ⟨he, hm⟩ => ⟨he, n, hm.symm⟩
def namesB (o : Int) : Bool := o == 19 || o == 20
theorem namesBlock_any (o : Int) (w : World) : Calls Tryz.prog 204 #[.int .i64 o] w fun e w' => e = .returned (.bool (namesB o)) ∧ w = w' := by
  go_enter Tryz.func204, Tryz.ntmps204
  go_wp2
  all_goals (go_ret; refine ⟨fb_rb ?_, rfl⟩; simp_all [namesB])
theorem namesBlock_is {o : Int} {b : Bool} (h : namesB o = b) (w : World) : Calls Tryz.prog 204 #[.int .i64 o] w fun e w' => e = .returned (.bool b) ∧ w = w' := h ▸ namesBlock_any o w
theorem find_plain (p : Nat) (o y : Int) (w : World) (h19 : (o == 19) = false) (h20 : (o == 20) = false) (h26 : (o == 26) = false) :
    Calls Tryz.prog 199 #[.pointer (some ⟨p, 0, none⟩), .agg #[.int .i64 o, .int .i64 y]] w fun e w' => e = .returned (.tuple #[]) ∧ Below w.heap.size w w' := by
  have hn : namesB o = false := by unfold namesB; rw [h19, h20]; rfl
  have HN := Lib.hid hn
  have h26' : (o != 26) = true := by simp [bne, h26]
  clear hn
  go_enter Tryz.func199, Tryz.ntmps199
  go_wp2_with fail
  go_quiet ((first | (go_at_call 204; exact quiet_left (namesBlock_is HN.out _)) | (go_at_call 191; exact quiet_left (require_ok _ _ _))))
  go_wp2_with fail
  go_quiet ((go_at_call 191; exact quiet_add_left (require_ok _ _ _)))
  go_wp2
  go_end0
  exact ⟨rfl, bel_dn (bel_dn ((Below.refl _ _).alloc (Nat.le_refl _) _) _) _⟩
theorem find_block_ok (p n c : Nat) (k : Option Addr) (o y : Int) (ho : o = 19 ∨ o = 20) (hy : y < n) (w : World) (hp : p < w.heap.size) (h0 : w.cell? ⟨p, 0, none⟩ = some (.slice k n c)) :
    Calls Tryz.prog 199 #[.pointer (some ⟨p, 0, none⟩), .agg #[.int .i64 o, .int .i64 y]] w fun e w' => e = .returned (.tuple #[]) ∧ Below w.heap.size w w' := by
  have hd : decide (y < (n : Int)) = true := decide_eq_true (by omega)
  rcases ho with rfl | rfl
  all_goals
    go_enter Tryz.func199, Tryz.ntmps199
    go_wp2_with fail
    go_quiet ((first | (go_at_call 204; exact quiet_left (namesBlock_is (b := true) rfl _)) | (go_at_call 191; exact quiet_left (require_ok _ _ _))))
    go_wp2_with fail
    go_quiet ((go_at_call 191; exact quiet_add_left (require_ok _ _ _)))
    go_wp2
    go_end0
    exact ⟨rfl, bel_dn (bel_dn ((Below.refl _ _).alloc (Nat.le_refl _) _) _) _⟩
set_option maxHeartbeats 1000000 in
theorem find_call_ok (p : Nat) (y r : Int) (hy : y < r) (w : World) (hp : p < w.heap.size) (h1 : w.cell? ⟨p, 1, none⟩ = some (.int .i64 r)) :
    Calls Tryz.prog 199 #[.pointer (some ⟨p, 0, none⟩), .agg #[.int .i64 26, .int .i64 y]] w fun e w' => e = .returned (.tuple #[]) ∧ Below w.heap.size w w' := by
  have hd : decide (y < r) = true := decide_eq_true hy
  clear hy
  go_enter Tryz.func199, Tryz.ntmps199
  go_wp2_with fail
  go_quiet ((first | (go_at_call 204; exact quiet_left (namesBlock_is (b := false) rfl _)) | (go_at_call 191; exact quiet_left (require_ok _ _ _))))
  go_wp2_with fail
  go_quiet ((go_at_call 191; exact quiet_add_left (require_ok _ _ _)))
  go_wp2
  go_end0
  exact ⟨rfl, bel_dn (bel_dn ((Below.refl _ _).alloc (Nat.le_refl _) _) _) _⟩
set_option maxHeartbeats 1000000 in
theorem find_call_no (p : Nat) (y r i : Int) (hy : r ≤ y) (w : World) (hp : p < w.heap.size) (h1 : w.cell? ⟨p, 1, none⟩ = some (.int .i64 r)) (h2 : w.cell? ⟨p, 2, none⟩ = some (.int .i64 i)) :
    Calls Tryz.prog 199 #[.pointer (some ⟨p, 0, none⟩), .agg #[.int .i64 26, .int .i64 y]] w fun e w' => e = Off i 15 ∧ Below w.heap.size w w' := by
  have hd : decide (y < r) = false := decide_eq_false (by omega)
  clear hy
  go_enter Tryz.func199, Tryz.ntmps199
  go_wp2_with fail
  go_quiet ((first | (go_at_call 204; exact quiet_left (namesBlock_is (b := false) rfl _)) | (go_at_call 191; exact quiet_left (require_ok _ _ _))))
  go_wp2_with fail
  go_region_dies
  all_goals
    refine Calls.mono (require_no _ _ i _ (by exact (((Below.refl w.heap.size w).alloc (Nat.le_refl _) _).cell (p := ⟨p, 2, none⟩) hp).trans h2)) ?_
    rintro e w' ⟨rfl, rfl⟩
    exact ⟨rfl, rfl, bel_dn ((Below.refl _ _).alloc (Nat.le_refl _) _) _⟩
set_option maxRecDepth 100000 in
set_option maxHeartbeats 1000000 in
theorem find_block_no1 (p n c : Nat) (k : Option Addr) (o y i : Int) (hn : namesB o = true) (hy : (n : Int) ≤ y) (w : World) (hp : p < w.heap.size) (h0 : w.cell? ⟨p, 0, none⟩ = some (.slice k n c)) (h2 : w.cell? ⟨p, 2, none⟩ = some (.int .i64 i)) :
    Calls Tryz.prog 199 #[.pointer (some ⟨p, 0, none⟩), .agg #[.int .i64 o, .int .i64 y]] w fun e w' => e = Off i 5 ∧ Below w.heap.size w w' := by
  have hd : decide (y < (n : Int)) = false := decide_eq_false (by omega)
  have HN := Lib.hid hn
  have HSW : Hid (∃ q, (w.alloc (.cells #[.int .i64 o, .int .i64 y] 128)).drew = (w.alloc (.cells #[.int .i64 o, .int .i64 y] 128)).drewN q) := Lib.hid ⟨1, rfl⟩
  have H2 := Lib.hid ((((Below.refl w.heap.size w).alloc (Nat.le_refl _) (.cells #[.int .i64 o, .int .i64 y] 128)).cell (p := ⟨p, 2, none⟩) hp).trans h2)
  clear hn hy h2
  go_enter Tryz.func199, Tryz.ntmps199
  go_wp2_with fail
  refine wp_region_hl 15 (fun X => ∃ q, X = (w.alloc (.cells #[.int .i64 o, .int .i64 y] 128)).drewN q) (by kernel_rfl) rfl rfl (by kernel_rfl) ?_
  refine hl_take (v := ?v0) 0 rfl (by kernel_rfl) (fun _ _ _ h => h) (Or.inl ⟨by rfl, ?hy0⟩) HSW.out ?rest0
  case hy0 =>
    rintro X ⟨q, rfl⟩
    go_simp <;> with_reducible rfl
  try simp only [Act.put, List.setIfInBounds_toArray, List.set_cons_zero, List.set_cons_succ]
  refine hl_take (v := ?v1) 1 rfl (by kernel_rfl) (fun _ _ _ h => h) (Or.inl ⟨by rfl, ?hy1⟩) HSW.out ?rest1
  case hy1 =>
    rintro X ⟨q, rfl⟩
    go_simp <;> with_reducible rfl
  try simp only [Act.put, List.setIfInBounds_toArray, List.set_cons_zero, List.set_cons_succ]
  refine hl_take (v := ?v2) 2 rfl (by kernel_rfl) (fun _ _ _ h => h) (Or.inl ⟨by rfl, ?hy2⟩) HSW.out ?rest2
  case hy2 =>
    rintro X ⟨q, rfl⟩
    go_simp <;> with_reducible rfl
  try simp only [Act.put, List.setIfInBounds_toArray, List.set_cons_zero, List.set_cons_succ]
  refine hl_one 3 rfl (by kernel_rfl) (fun K hK => ?_)
  go_simp
  refine Calls.mono (namesBlock_is HN.out _) ?_
  rintro e w' ⟨rfl, rfl⟩
  refine hK.out _ _ HSW.out ?_
  clear hK
  try simp only [Act.put, List.setIfInBounds_toArray, List.set_cons_zero, List.set_cons_succ]
  refine hl_take (v := ?v4) 4 rfl (by kernel_rfl) (fun _ _ _ h => h) (Or.inl ⟨by rfl, ?hy4⟩) HSW.out ?rest4
  case hy4 =>
    rintro X ⟨q, rfl⟩
    go_simp <;> with_reducible rfl
  try simp only [Act.put, List.setIfInBounds_toArray, List.set_cons_zero, List.set_cons_succ]
  refine hl_take (v := ?v5) 5 rfl (by kernel_rfl) (fun _ _ _ h => h) (Or.inl ⟨by rfl, ?hy5⟩) HSW.out ?rest5
  case hy5 =>
    rintro X ⟨q, rfl⟩
    go_simp <;> with_reducible rfl
  try simp only [Act.put, List.setIfInBounds_toArray, List.set_cons_zero, List.set_cons_succ]
  refine hl_take (v := ?v6) 6 rfl (by kernel_rfl) (fun _ _ _ h => h) (Or.inl ⟨by rfl, ?hy6⟩) HSW.out ?rest6
  case hy6 =>
    rintro X ⟨q, rfl⟩
    go_simp <;> with_reducible rfl
  try simp only [Act.put, List.setIfInBounds_toArray, List.set_cons_zero, List.set_cons_succ]
  refine hl_take (v := ?v7) 7 rfl (by kernel_rfl) (fun _ _ _ h => h) (Or.inl ⟨by rfl, ?hy7⟩) HSW.out ?rest7
  case hy7 =>
    rintro X ⟨q, rfl⟩
    go_simp <;> with_reducible rfl
  try simp only [Act.put, List.setIfInBounds_toArray, List.set_cons_zero, List.set_cons_succ]
  refine hl_take (v := ?v8) 8 rfl (by kernel_rfl) (fun _ _ _ h => h) (Or.inl ⟨by rfl, ?hy8⟩) HSW.out ?rest8
  case hy8 =>
    rintro X ⟨q, rfl⟩
    go_simp <;> with_reducible rfl
  try simp only [Act.put, List.setIfInBounds_toArray, List.set_cons_zero, List.set_cons_succ]
  refine hl_take (v := ?v9) 9 rfl (by kernel_rfl) (fun _ _ _ h => h) (Or.inl ⟨by rfl, ?hy9⟩) HSW.out ?rest9
  case hy9 =>
    rintro X ⟨q, rfl⟩
    go_simp <;> with_reducible rfl
  try simp only [Act.put, List.setIfInBounds_toArray, List.set_cons_zero, List.set_cons_succ]
  refine hl_take (v := ?v10) 10 rfl (by kernel_rfl) (fun _ _ _ h => h) (Or.inl ⟨by rfl, ?hy10⟩) HSW.out ?rest10
  case hy10 =>
    rintro X ⟨q, rfl⟩
    go_simp <;> with_reducible rfl
  try simp only [Act.put, List.setIfInBounds_toArray, List.set_cons_zero, List.set_cons_succ]
  refine hl_take (v := ?v11) 11 rfl (by kernel_rfl) (fun _ _ _ h => h) (Or.inl ⟨by rfl, ?hy11⟩) HSW.out ?rest11
  case hy11 =>
    rintro X ⟨q, rfl⟩
    go_simp <;> with_reducible rfl
  try simp only [Act.put, List.setIfInBounds_toArray, List.set_cons_zero, List.set_cons_succ]
  refine hl_take (v := ?v12) 12 rfl (by kernel_rfl) (fun _ _ _ h => h) (Or.inl ⟨by rfl, ?hy12⟩) HSW.out ?rest12
  case hy12 =>
    rintro X ⟨q, rfl⟩
    go_simp <;> with_reducible rfl
  try simp only [Act.put, List.setIfInBounds_toArray, List.set_cons_zero, List.set_cons_succ]
  refine hl_take (v := ?v13) 13 rfl (by kernel_rfl) (fun _ _ _ h => h) (Or.inl ⟨by rfl, ?hy13⟩) HSW.out ?rest13
  case hy13 =>
    rintro X ⟨q, rfl⟩
    go_simp <;> with_reducible rfl
  try simp only [Act.put, List.setIfInBounds_toArray, List.set_cons_zero, List.set_cons_succ]
  refine hl_take (v := ?v14) 14 rfl (by kernel_rfl) (fun _ _ _ h => h) (Or.inl ⟨by rfl, ?hy14⟩) HSW.out ?rest14
  case hy14 =>
    rintro X ⟨q, rfl⟩
    go_simp <;> with_reducible rfl
  try simp only [Act.put, List.setIfInBounds_toArray, List.set_cons_zero, List.set_cons_succ]
  refine hl_done (by kernel_rfl) ?_
  go_simp
  refine Calls.mono (require_no _ _ i _ (by exact H2.out)) ?_
  rintro e w' ⟨rfl, rfl⟩
  exact ⟨rfl, rfl, bel_dn ((Below.refl _ _).alloc (Nat.le_refl _) _) 1⟩
theorem find_block_no (p n c : Nat) (k : Option Addr) (o y i : Int) (ho : o = 19 ∨ o = 20) (hy : (n : Int) ≤ y) (w : World) (hp : p < w.heap.size) (h0 : w.cell? ⟨p, 0, none⟩ = some (.slice k n c)) (h2 : w.cell? ⟨p, 2, none⟩ = some (.int .i64 i)) :
    Calls Tryz.prog 199 #[.pointer (some ⟨p, 0, none⟩), .agg #[.int .i64 o, .int .i64 y]] w fun e w' => e = Off i 5 ∧ Below w.heap.size w w' :=
  find_block_no1 p n c k o y i (by rcases ho with rfl | rfl <;> rfl) hy w hp h0 h2
theorem effTab_two {w : World} (ht : EffTab w) (O O' : Obj) : EffTab ((w.alloc O).alloc O') :=
  ht.below (B := w.heap.size) (((Below.refl w.heap.size w).alloc (Nat.le_refl _) O).alloc (by simp) O') (Nat.le_refl _)
theorem effectOf_plain (k : Nat) (y : Int) (a : Option Addr) (n c : Nat) (hk : k < 27) (h19 : ((k : Int) == 19) = false) (w : World) (ht : EffTab w) :
    Calls Tryz.prog 200 #[.agg #[.int .i64 k, .int .i64 y], .slice a n c] w fun e w' => e = .returned (.agg #[.string (effT k), .string (effG k)]) ∧ Below w.heap.size w w' := by
  obtain ⟨c0, c1⟩ := effTab_two ht (.cells #[.int .i64 k, .int .i64 y] 128) (.cells #[.string ⟨#[]⟩, .string ⟨#[]⟩] 243) k hk
  clear ht
  generalize effT k = T at *
  generalize effG k = G at *
  go_enter Tryz.func200, Tryz.ntmps200
  go_wp2
  refine bodyPost_ret (v := .agg #[.string T, .string G]) (by simp [results, Tryz.results200, go_sem]) rfl ⟨rfl, ?_⟩
  exact (((Below.refl w.heap.size w).alloc (Nat.le_refl _) _).alloc (by simp) _).alloc (by simp; omega) _
theorem effectOf_block (b o n c : Nat) (ks : List Int) (y : Nat) (hy : y < n) (w : World) (ht : EffTab w) (hf : FbTab w) (hb : b < w.heap.size) (hk : w.cell? ⟨b, o + y, none⟩ = some (.int .i64 (ks.getD y 0))) :
    Calls Tryz.prog 200 #[.agg #[.int .i64 19, .int .i64 y], .slice (some ⟨b, o, none⟩) n c] w fun e w' => e = .returned (.agg #[.string (takesF (ks.getD y 0)), .string ⟨#[98]⟩]) ∧ Below w.heap.size w w' := by
  obtain ⟨c0, c1⟩ := effTab_two ht (.cells #[.int .i64 19, .int .i64 y] 128) (.cells #[.string ⟨#[]⟩, .string ⟨#[]⟩] 243) 19 (by omega)
  have e0 : effT 19 = ⟨#[]⟩ := rfl
  have e1 : effG 19 = ⟨#[98]⟩ := rfl
  rw [e0] at c0
  rw [e1] at c1
  have hB : ∀ O O' O'' : Obj, Below w.heap.size w (((w.alloc O).alloc O').alloc O'') := fun O O' O'' => (((Below.refl w.heap.size w).alloc (Nat.le_refl _) O).alloc (by simp) O').alloc (by simp; omega) O''
  have HF : Hid (∀ (O O' O'' : Obj), FbTab (((w.alloc O).alloc O').alloc O'')) := Lib.hid (fun O O' O'' => hf.below (hB O O' O'') (Nat.le_refl _))
  have d1 : ∀ O O' O'' : Obj, (((w.alloc O).alloc O').alloc O'').cell? ⟨b, o + y, none⟩ = some (.int .i64 (ks.getD y 0)) := fun O O' O'' => ((hB O O' O'').cell (p := ⟨b, o + y, none⟩) hb).trans hk
  have HB := Lib.hid hB
  clear ht hf e0 e1 hB hk hb
  generalize ks.getD y 0 = z at *
  go_enter Tryz.func200, Tryz.ntmps200
  go_wp2_with fail
  refine Calls.mono (takesOf_any z _ (by exact HF.out _ _ _)) ?_
  rintro e w' ⟨rfl, rfl⟩
  go_wp2
  all_goals
    refine bodyPost_ret (v := .agg #[.string (takesF z), .string ⟨#[98]⟩]) (by simp [results, Tryz.results200, go_sem]) rfl ⟨rfl, ?_⟩
    exact HB.out _ _ _
end Go.Proofs.YtmpppfibeoghaaaGreatDoor
namespace Go.Proofs.YtmpppfibeoghaaaGreatDoor
open Go.ChangeShapes Go.WideShapes Go.ChangeAt Go.RowKit
set_option linter.unusedVariables false
/-- What a structure's opening leaves. -/
def Opened (B p n' c' : Nat) (a' : Option Addr) (xs : List Value) (z : List Value) (w w' : World) : Prop :=
  ∃ a2 c2 w1 O, w1.ownsRow B 223 3 (.slice a2 (n' + 1) c2) (n' + 1) (xs ++ z) ∧ (w.alloc O).grownBy w1 (Value.ownBlock (.slice a' n' c')) ∧ w' = w1.setCell ⟨p, 4, none⟩ (.slice a2 (n' + 1) c2)
theorem nest_plain (p : Nat) (o : Int) (w : World) (h1 : (o == 21) = false) (h2 : (o == 24) = false) (h3 : (o == 22) = false) (h4 : (o == 23) = false) :
    Calls Tryz.prog 203 #[.pointer (some ⟨p, 0, none⟩), .int .i64 o] w fun e w' => e = .returned (.tuple #[]) ∧ w = w' := by
  go_enter Tryz.func203, Tryz.ntmps203
  go_wp2
  go_end0
  exact ⟨rfl, rfl⟩
theorem nest_deep (p c' : Nat) (a' : Option Addr) (o i : Int) (ho : o = 21 ∨ o = 24) (w : World) (h2 : w.cell? ⟨p, 2, none⟩ = some (.int .i64 i)) (h4 : w.cell? ⟨p, 4, none⟩ = some (.slice a' 4 c')) :
    Calls Tryz.prog 203 #[.pointer (some ⟨p, 0, none⟩), .int .i64 o] w fun e w' => e = Off i 17 ∧ w = w' := by
  rcases ho with rfl | rfl
  all_goals
    go_enter Tryz.func203, Tryz.ntmps203
    go_wp2_with fail
    refine Calls.mono (require_no _ _ i _ h2) ?_
    rintro e w' ⟨rfl, rfl⟩
    exact ⟨rfl, rfl, rfl⟩
theorem three_cells (w : World) (a b c : Value) (t : TypeId) : ∀ j u, [a, b, c][j]? = some u → (w.alloc (.cells #[a, b, c] t)).cell? ((⟨w.heap.size, 0, none⟩ : Addr).add j) = some u := by
  intro j u hj
  match j, hj with
  | 0, hj => simp at hj; subst hj; simp [Addr.add]
  | 1, hj => simp at hj; subst hj; simp [Addr.add]
  | 2, hj => simp at hj; subst hj; simp [Addr.add]
  | j + 3, hj => simp at hj
set_option maxHeartbeats 4000000 in
theorem nest_open (B p n c n' c' : Nat) (a a' : Option Addr) (xs : List Value) (i o : Int) (ho : o = 21 ∨ o = 24) (hn' : n' + 1 ≤ 4) (hn : n ≤ 8) (w : World) (hB : B ≤ w.heap.size) (hp : p < w.heap.size)
    (h2 : w.cell? ⟨p, 2, none⟩ = some (.int .i64 i)) (h3 : w.cell? ⟨p, 3, none⟩ = some (.slice a n c)) (h4 : w.cell? ⟨p, 4, none⟩ = some (.slice a' n' c')) (f4 : w.frozen? ⟨p, 4, none⟩ = false)
    (hown : w.ownsRow B 223 3 (.slice a' n' c') n' xs) (hne : some p ≠ Value.ownBlock (.slice a' n' c')) :
    Calls Tryz.prog 203 #[.pointer (some ⟨p, 0, none⟩), .int .i64 o] w fun e w' => e = .returned (.tuple #[]) ∧ Opened B p n' c' a' xs [.int .i64 i, .int .i64 n, .bool (o == 21)] w w' := by
  obtain ⟨i0, hi, hz0, hz1, hz2⟩ := info_parts (show (Tryz.prog.info? 223).map (fun i => (i.zero, i.size, i.bytes)) = some (some (.agg #[.int .i64 0, .int .i64 0, .bool false]), 3, 24) by kernel_rfl)
  have HI := Lib.hid (And.intro hi (And.intro hz0 (And.intro hz1 hz2)))
  have Ho := Lib.hid hown
  have HN := Lib.hid hne
  have HF := Lib.hid f4
  have HB := Lib.hid hB
  have hk : ∀ O w1, (w.alloc O).grownBy w1 (Value.ownBlock (.slice a' n' c')) → w1.heap[p]? = w.heap[p]? := fun O w1 g =>
    (g.block p (by simp; omega) HN.out).trans (Below.heap_alloc w O p hp)
  have HK := Lib.hid hk
  have hd : decide ((n' : Int) < 4) = true := decide_eq_true (by omega)
  have HBB : Hid (∀ O, B ≤ (w.alloc O).heap.size) := Lib.hid (fun O => by simp; omega)
  have H1c : Hid (∀ q : Bool, ∀ u ∈ [Value.int .i64 i, .int .i64 (n : Int), .bool q], u.oneCell' = true) := Lib.hid (fun q => by simp [Value.oneCell'])
  have HM1 : Hid (n' + 1 ≤ maxLen) := Lib.hid (by unfold maxLen; omega)
  have HM2 : Hid ((n' + 1) * 24 ≤ 140737488355328) := Lib.hid (by omega)
  have H03 : Hid (0 < 3) := Lib.hid (by decide)
  clear hi hz0 hz1 hz2 hown hne hk f4 hB
  obtain ⟨H1, H2, H3, H4⟩ := HI.out
  rcases ho with rfl | rfl
  · go_enter Tryz.func203, Tryz.ntmps203
    go_wp2_with fail
    refine (require_ok _ _ _).mono ?_
    rintro e w' ⟨rfl, rfl⟩
    go_wp2_with fail
    go_region_law (refine step_append_own rfl (.tmp 21) (.tmp 34) _ rfl B 223 i0 _ 3 24 Tryz.underlying198 H1 H2 H3 H4 rfl H03.out (.slice a' n' c') n' xs rfl (Ho.out.alloc _) ⟨w.heap.size, 0, none⟩ 1 1 [.int .i64 i, .int .i64 n, .bool true] rfl rfl (three_cells _ (.int .i64 i) (.int .i64 n) (.bool true) _) (H1c.out true) HM1.out HM2.out (HBB.out (.cells #[.int .i64 i, .int .i64 n, .bool true] 223)) (fun v' w' g1 g2 _ => ?_); obtain ⟨a2, c2, rfl⟩ := wk_slice g1; have G1 := Lib.hid g1; have g2 : (w.alloc (.cells #[.int .i64 i, .int .i64 n, .bool true] 223)).grownBy w' (Value.ownBlock (.slice a' n' c')) := ⟨g2.os, g2.tape, g2.output, g2.size, g2.block⟩; have G2 := Lib.hid g2; have k4 := (World.frozen?_of_block (a := ⟨p, 4, none⟩) (HK.out _ _ g2)).trans HF.out; have k3 := (World.cell?_of_block (a := ⟨p, 4, none⟩) (HK.out _ _ g2)).trans h4; clear g1 g2)
    all_goals go_wp2
    all_goals go_end0
    all_goals exact ⟨rfl, a2, c2, _, _, G1.out, G2.out, rfl⟩
  · go_enter Tryz.func203, Tryz.ntmps203
    go_wp2_with fail
    refine (require_ok _ _ _).mono ?_
    rintro e w' ⟨rfl, rfl⟩
    go_wp2_with fail
    go_region_law (refine step_append_own rfl (.tmp 21) (.tmp 34) _ rfl B 223 i0 _ 3 24 Tryz.underlying198 H1 H2 H3 H4 rfl H03.out (.slice a' n' c') n' xs rfl (Ho.out.alloc _) ⟨w.heap.size, 0, none⟩ 1 1 [.int .i64 i, .int .i64 n, .bool false] rfl rfl (three_cells _ (.int .i64 i) (.int .i64 n) (.bool false) _) (H1c.out false) HM1.out HM2.out (HBB.out (.cells #[.int .i64 i, .int .i64 n, .bool false] 223)) (fun v' w' g1 g2 _ => ?_); obtain ⟨a2, c2, rfl⟩ := wk_slice g1; have G1 := Lib.hid g1; have g2 : (w.alloc (.cells #[.int .i64 i, .int .i64 n, .bool false] 223)).grownBy w' (Value.ownBlock (.slice a' n' c')) := ⟨g2.os, g2.tape, g2.output, g2.size, g2.block⟩; have G2 := Lib.hid g2; have k4 := (World.frozen?_of_block (a := ⟨p, 4, none⟩) (HK.out _ _ g2)).trans HF.out; have k3 := (World.cell?_of_block (a := ⟨p, 4, none⟩) (HK.out _ _ g2)).trans h4; clear g1 g2)
    all_goals go_wp2
    all_goals go_end0
    all_goals exact ⟨rfl, a2, c2, _, _, G1.out, G2.out, rfl⟩
end Go.Proofs.YtmpppfibeoghaaaGreatDoor
namespace Go.Proofs.YtmpppfibeoghaaaGreatDoor
open Go.ChangeShapes Go.WideShapes Go.ChangeAt Go.RowKit
set_option linter.unusedVariables false
theorem nest_none (p c' : Nat) (a' : Option Addr) (o i : Int) (ho : o = 22 ∨ o = 23) (w : World) (h2 : w.cell? ⟨p, 2, none⟩ = some (.int .i64 i)) (h4 : w.cell? ⟨p, 4, none⟩ = some (.slice a' 0 c')) :
    Calls Tryz.prog 203 #[.pointer (some ⟨p, 0, none⟩), .int .i64 o] w fun e w' => e = Off i 14 ∧ w = w' := by
  rcases ho with rfl | rfl
  all_goals
    go_enter Tryz.func203, Tryz.ntmps203
    go_wp2_with fail
    refine Calls.mono (innermost_no p c' a' i _ h4 h2) ?_
    rintro e w' ⟨rfl, rfl⟩
    exact ⟨rfl, rfl, rfl⟩
theorem else_not (p g m c : Nat) (i : Int) (hm : m + 1 ≤ 100) (w : World) (h2 : ∀ q, (w.drewN q).cell? ⟨p, 2, none⟩ = some (.int .i64 i)) (h4 : w.cell? ⟨p, 4, none⟩ = some (.slice (some ⟨g, 0, none⟩) (m + 1) c)) (hb : w.cell? ⟨g, m * 3 + 2, none⟩ = some (.bool false)) :
    Calls Tryz.prog 203 #[.pointer (some ⟨p, 0, none⟩), .int .i64 22] w fun e w' => e = Off i 14 ∧ ∃ q, w' = w.drewN q := by
  have H2 := Lib.hid h2
  clear h2
  go_enter Tryz.func203, Tryz.ntmps203
  go_wp2_with fail
  refine Calls.mono (innermost_ok p g m c hm _ h4) ?_
  rintro e w' ⟨rfl, q, rfl⟩
  go_wp2_with fail
  refine Calls.mono (require_no _ _ i _ (H2.out _)) ?_
  rintro e w' ⟨rfl, rfl⟩
  exact ⟨rfl, rfl, _, rfl⟩
theorem else_level (p g m c n cs : Nat) (a : Option Addr) (i k : Int) (hm : m + 1 ≤ 100) (hk : (n : Int) ≠ k) (w : World) (h2 : ∀ q, (w.drewN q).cell? ⟨p, 2, none⟩ = some (.int .i64 i)) (h3 : ∀ q, (w.drewN q).cell? ⟨p, 3, none⟩ = some (.slice a n cs))
    (h4 : w.cell? ⟨p, 4, none⟩ = some (.slice (some ⟨g, 0, none⟩) (m + 1) c)) (hb : w.cell? ⟨g, m * 3 + 2, none⟩ = some (.bool true)) (hh : ∀ q, (w.drewN q).cell? ⟨g, m * 3 + 1, none⟩ = some (.int .i64 k)) :
    Calls Tryz.prog 203 #[.pointer (some ⟨p, 0, none⟩), .int .i64 22] w fun e w' => e = Off i 13 ∧ ∃ q, w' = w.drewN q := by
  have HL := Lib.hid (fun q => level_no p g (m * 3) n cs a k i hk (w.drewN q) (h3 q) (hh q) (h2 q))
  clear h2 h3 hk hh
  go_enter Tryz.func203, Tryz.ntmps203
  go_wp2_with fail
  refine Calls.mono (innermost_ok p g m c hm _ h4) ?_
  rintro e w' ⟨rfl, q, rfl⟩
  go_wp2_with fail
  refine Calls.mono (require_ok _ _ _) ?_
  rintro e w' ⟨rfl, rfl⟩
  go_wp2_with fail
  refine Calls.mono (HL.out q) ?_
  rintro e w' ⟨rfl, q2, rfl⟩
  exact ⟨rfl, rfl, q + q2, by simp⟩
theorem else_ok (p g m c n cs : Nat) (a : Option Addr) (hm : m + 1 ≤ 100) (w : World) (h3 : ∀ q, (w.drewN q).cell? ⟨p, 3, none⟩ = some (.slice a n cs))
    (h4 : w.cell? ⟨p, 4, none⟩ = some (.slice (some ⟨g, 0, none⟩) (m + 1) c)) (hb : w.cell? ⟨g, m * 3 + 2, none⟩ = some (.bool true)) (fb : w.frozen? ⟨g, m * 3 + 2, none⟩ = false) (hh : ∀ q, (w.drewN q).cell? ⟨g, m * 3 + 1, none⟩ = some (.int .i64 n)) :
    Calls Tryz.prog 203 #[.pointer (some ⟨p, 0, none⟩), .int .i64 22] w fun e w' => e = .returned (.tuple #[]) ∧ ∃ q, w' = (w.drewN q).setCell ⟨g, m * 3 + 2, none⟩ (.bool false) := by
  have HL := Lib.hid (fun q => level_ok p g (m * 3) n cs a (w.drewN q) (h3 q) (hh q))
  clear h3 hh
  go_enter Tryz.func203, Tryz.ntmps203
  go_wp2_with fail
  refine Calls.mono (innermost_ok p g m c hm _ h4) ?_
  rintro e w' ⟨rfl, q, rfl⟩
  go_wp2_with fail
  refine Calls.mono (require_ok _ _ _) ?_
  rintro e w' ⟨rfl, rfl⟩
  go_wp2_with fail
  refine Calls.mono (HL.out q) ?_
  rintro e w' ⟨rfl, q2, rfl⟩
  go_wp2
  go_end0
  exact ⟨rfl, q + q2, by simp⟩
theorem end_level (p g m c n cs : Nat) (a : Option Addr) (i k : Int) (hm : m + 1 ≤ 100) (hk : (n : Int) ≠ k) (w : World) (h2 : ∀ q, (w.drewN q).cell? ⟨p, 2, none⟩ = some (.int .i64 i)) (h3 : ∀ q, (w.drewN q).cell? ⟨p, 3, none⟩ = some (.slice a n cs))
    (h4 : w.cell? ⟨p, 4, none⟩ = some (.slice (some ⟨g, 0, none⟩) (m + 1) c)) (hh : ∀ q, (w.drewN q).cell? ⟨g, m * 3 + 1, none⟩ = some (.int .i64 k)) :
    Calls Tryz.prog 203 #[.pointer (some ⟨p, 0, none⟩), .int .i64 23] w fun e w' => e = Off i 13 ∧ ∃ q, w' = w.drewN q := by
  have HL := Lib.hid (fun q => level_no p g (m * 3) n cs a k i hk (w.drewN q) (h3 q) (hh q) (h2 q))
  clear h2 h3 hk hh
  go_enter Tryz.func203, Tryz.ntmps203
  go_wp2_with fail
  refine Calls.mono (innermost_ok p g m c hm _ h4) ?_
  rintro e w' ⟨rfl, q, rfl⟩
  go_wp2_with fail
  refine Calls.mono (HL.out q) ?_
  rintro e w' ⟨rfl, q2, rfl⟩
  exact ⟨rfl, rfl, q + q2, by simp⟩
theorem end_ok (p g m c n cs : Nat) (a : Option Addr) (hm : m + 1 ≤ 100) (hmc : m + 1 ≤ c) (w : World) (h3 : ∀ q, (w.drewN q).cell? ⟨p, 3, none⟩ = some (.slice a n cs))
    (h4 : w.cell? ⟨p, 4, none⟩ = some (.slice (some ⟨g, 0, none⟩) (m + 1) c)) (f4 : w.frozen? ⟨p, 4, none⟩ = false) (hh : ∀ q, (w.drewN q).cell? ⟨g, m * 3 + 1, none⟩ = some (.int .i64 n)) :
    Calls Tryz.prog 203 #[.pointer (some ⟨p, 0, none⟩), .int .i64 23] w fun e w' => e = .returned (.tuple #[]) ∧ ∃ q, w' = (w.drewN q).setCell ⟨p, 4, none⟩ (.slice (some ⟨g, 0, none⟩) m c) := by
  have HL := Lib.hid (fun q => level_ok p g (m * 3) n cs a (w.drewN q) (h3 q) (hh q))
  clear h3 hh
  go_enter Tryz.func203, Tryz.ntmps203
  go_wp2_with fail
  refine Calls.mono (innermost_ok p g m c hm _ h4) ?_
  rintro e w' ⟨rfl, q, rfl⟩
  go_wp2_with fail
  refine Calls.mono (HL.out q) ?_
  rintro e w' ⟨rfl, q2, rfl⟩
  go_wp2
  go_region
  all_goals go_wp2
  all_goals go_end0
  all_goals exact ⟨rfl, q + q2 + 1, by simp⟩
end Go.Proofs.YtmpppfibeoghaaaGreatDoor
namespace Go.Proofs.YtmpppfibeoghaaaGreatDoor
open Go.ChangeShapes Go.WideShapes Go.ChangeAt Go.RowKit
set_option linter.unusedVariables false
theorem own_less {w : World} {B size g r k c : Nat} {e : TypeId} {xs ys : List Value} (h : w.ownsRow B e size (.slice (some ⟨g, 0, none⟩) (r + k) c) (r + k) (xs ++ ys)) (hx : xs.length = r * size) : w.ownsRow B e size (.slice (some ⟨g, 0, none⟩) r c) r xs := by
  obtain ⟨h1, h2⟩ := h
  refine ⟨hx, ?_⟩
  rcases h2 with ⟨h0, _⟩ | ⟨g', cap, cur, h0, hb, hg, hn, hm, hs, ht⟩
  · simp at h0
  · simp only [Value.slice.injEq, Option.some.injEq, Addr.mk.injEq, and_true, true_and] at h0
    obtain ⟨rfl, rfl⟩ := h0
    refine .inr ⟨g, c, cur, rfl, hb, hg, by omega, hm, hs, ?_⟩
    have h3 := congrArg (List.take (r * size)) ht
    rw [List.take_take, Nat.min_eq_left (Nat.mul_le_mul_right _ (by omega)), ← hx, List.take_left'] at h3
    · rw [← hx]; exact h3
    · rfl
theorem own_dn {w : World} {B size n : Nat} {e : TypeId} {v : Value} {xs : List Value} (h : w.ownsRow B e size v n xs) (q : Nat) : (w.drewN q).ownsRow B e size v n xs := h
/-- Whatever is no part of a walk stays as it is. -/
def Keeps (w w' : World) : Prop := ∀ (k : Nat) (cs : Array Value) (t : TypeId) (fz : Nat × Nat), w.heap[k]? = some (.cells cs t fz) → t ≠ 200 → t ≠ 5 → t ≠ 223 → w'.heap[k]? = some (.cells cs t fz)
theorem Keeps.refl (w : World) : Keeps w w := fun _ _ _ _ h _ _ _ => h
theorem Keeps.trans {a b c : World} (h : Keeps a b) (g : Keeps b c) : Keeps a c := fun k cs t fz e h1 h2 h3 => g k cs t fz (h k cs t fz e h1 h2 h3) h1 h2 h3
theorem Keeps.dn {a b : World} (h : Keeps a b) (q : Nat) : Keeps a (b.drewN q) := h
theorem Keeps.alloc {a b : World} (h : Keeps a b) (O : Obj) : Keeps a (b.alloc O) := fun k cs t fz e h1 h2 h3 => by
  have g := h k cs t fz e h1 h2 h3
  rw [Below.heap_alloc b O k (Array.getElem?_eq_some_iff.1 g).1]
  exact g
/-- A part of a walk. -/
def Part (t : TypeId) : Prop := t = 200 ∨ t = 5 ∨ t = 223
theorem Keeps.set {a b : World} (h : Keeps a b) {p i : Nat} {u : Value} {cs : Array Value} {t : TypeId} {fz : Nat × Nat} (hp : b.heap[p]? = some (.cells cs t fz)) (ht : Part t) : Keeps a (b.setCell ⟨p, i, none⟩ u) := fun k cs' t' fz' e h1 h2 h3 => by
  have g := h k cs' t' fz' e h1 h2 h3
  rw [heap_setCell_other _ _ _ _ (fun e' => ?_)]
  · exact g
  · simp only at e'
    subst e'
    rw [hp] at g
    simp only [Option.some.injEq, Obj.cells.injEq] at g
    obtain ⟨_, rfl, _⟩ := g
    rcases ht with r | r | r
    · exact h1 r
    · exact h2 r
    · exact h3 r
theorem Keeps.grown {a b c : World} {row : Option Nat} (h : Keeps a b) (hg : b.grownBy c row) (hr : ∀ g : Nat, row = some g → ∃ (cs : Array Value) (t : TypeId) (fz : Nat × Nat), b.heap[g]? = some (.cells cs t fz) ∧ Part t) : Keeps a c := fun k cs' t' fz' e h1 h2 h3 => by
  have g := h k cs' t' fz' e h1 h2 h3
  rw [hg.block k (Array.getElem?_eq_some_iff.1 g).1 (fun e' => ?_)]
  · exact g
  · obtain ⟨cs, t, fz, hb, ht⟩ := hr k e'.symm
    rw [hb] at g
    simp only [Option.some.injEq, Obj.cells.injEq] at g
    obtain ⟨_, rfl, _⟩ := g
    rcases ht with r | r | r
    · exact h1 r
    · exact h2 r
    · exact h3 r
theorem own_part {w : World} {B size n : Nat} {e : TypeId} {v : Value} {xs : List Value} (h : w.ownsRow B e size v n xs) (he : Part e) : ∀ g : Nat, v.ownBlock = some g → ∃ (cs : Array Value) (t : TypeId) (fz : Nat × Nat), w.heap[g]? = some (.cells cs t fz) ∧ Part t := fun g hg => by
  obtain ⟨c, f, hc⟩ := Lib.ownsRow_kind h g hg
  exact ⟨c, e, f, hc, he⟩
/-- What is below B, and what is no part of a walk. -/
def Fr (B : Nat) (w w' : World) : Prop := Below B w w' ∧ Keeps w w'
section
variable {B p : Nat} {K : Value} {r i : Int} {a a' : Option Addr} {n c n' c' : Nat} {stk : List UInt8} {opn : List SO} {w w' : World}
theorem WAt.bel (h : WAt B p K r i a n c a' n' c' stk opn w) (hb : Below w.heap.size w w') : WAt B p K r i a n c a' n' c' stk opn w' :=
  ⟨h.base, (hb.block p h.plt).trans h.blk, own_bl h.stack hb, own_bl h.opens hb⟩
theorem WAt.dn (h : WAt B p K r i a n c a' n' c' stk opn w) (q : Nat) : WAt B p K r i a n c a' n' c' stk opn (w.drewN q) := ⟨h.base, h.blk, h.stack, h.opens⟩
theorem WAt.nes (h : WAt B p K r i a n c a' n' c' stk opn w) : Value.ownBlock (.slice a n c) ≠ some p := own_ne h.stack h.blk (by decide)
theorem WAt.neo (h : WAt B p K r i a n c a' n' c' stk opn w) : Value.ownBlock (.slice a' n' c') ≠ some p := own_ne h.opens h.blk (by decide)
theorem WAt.low (h : WAt B p K r i a n c a' n' c' stk opn w) : B ≤ w.heap.size := Nat.le_of_lt (Nat.lt_of_le_of_lt h.base h.plt)
/-- The index moves on. -/
theorem WAt.next (h : WAt B p K r i a n c a' n' c' stk opn w) (j : Int) : WAt B p K r j a n c a' n' c' stk opn (w.setCell ⟨p, 2, none⟩ (.int .i64 j)) ∧ Fr B w (w.setCell ⟨p, 2, none⟩ (.int .i64 j)) :=
  ⟨⟨h.base, by simpa using wk_set h.blk 2 (.int .i64 j), ownsRow_setCell_other h.stack h.nes _, ownsRow_setCell_other h.opens h.neo _⟩, (Below.refl B w).setCell (p := ⟨p, 2, none⟩) h.base _, (Keeps.refl w).set h.blk (.inl rfl)⟩
/-- The stack gets shorter. -/
theorem WAt.popped {g k : Nat} {st tk : List UInt8} (h : WAt B p K r i (some ⟨g, 0, none⟩) (n + k) c a' n' c' (st ++ tk) opn w) (hst : st.length = n) (q : Nat) :
    WAt B p K r i (some ⟨g, 0, none⟩) n c a' n' c' st opn ((w.drewN q).setCell ⟨p, 3, none⟩ (.slice (some ⟨g, 0, none⟩) n c)) ∧ Fr B w ((w.drewN q).setCell ⟨p, 3, none⟩ (.slice (some ⟨g, 0, none⟩) n c)) := by
  have h' := h.dn q
  have hs : w.ownsRow B 5 1 (.slice (some ⟨g, 0, none⟩) (n + k) c) (n + k) (u8s st ++ u8s tk) := by
    have := h.stack
    rwa [show u8s (st ++ tk) = u8s st ++ u8s tk by simp [u8s]] at this
  refine ⟨⟨h.base, by simpa using wk_set h'.blk 3 (.slice (some ⟨g, 0, none⟩) n c), ownsRow_setCell_other (a := ⟨p, 3, none⟩) (own_dn (own_less hs (by rw [u8s_len]; omega)) q) (show Value.ownBlock (.slice (some ⟨g, 0, none⟩) n c) ≠ some p from h.nes) _, ownsRow_setCell_other h'.opens h.neo _⟩, ?_⟩
  exact ⟨(bel_dn (Below.refl B w) q).setCell (p := ⟨p, 3, none⟩) h.base _, ((Keeps.refl w).dn q).set h.blk (.inl rfl)⟩
/-- The stack, nil, stays as it is. -/
theorem WAt.popnil (h : WAt B p K r i none 0 0 a' n' c' stk opn w) (q : Nat) :
    WAt B p K r i none 0 0 a' n' c' stk opn ((w.drewN q).setCell ⟨p, 3, none⟩ (.slice none 0 0)) ∧ Fr B w ((w.drewN q).setCell ⟨p, 3, none⟩ (.slice none 0 0)) :=
  ⟨⟨h.base, by simpa using wk_set (h.dn q).blk 3 (.slice none 0 0), ownsRow_setCell_other (h.dn q).stack h.nes _, ownsRow_setCell_other (h.dn q).opens h.neo _⟩, (bel_dn (Below.refl B w) q).setCell (p := ⟨p, 3, none⟩) h.base _, ((Keeps.refl w).dn q).set h.blk (.inl rfl)⟩
theorem cells_bytes (t : ByteArray) : Lib.strCells t = u8s t.data.toList := rfl
theorem WAt.pushed {t : ByteArray} (h : WAt B p K r i a n c a' n' c' stk opn w) (g : Pushed B p n c a (u8s stk) t w w') :
    (∃ a2 c2, WAt B p K r i a2 (n + t.size) c2 a' n' c' (stk ++ t.data.toList) opn w') ∧ Fr B w w' := by
  obtain ⟨a2, c2, w1, ho, hg, rfl⟩ := g
  have hp : w1.heap[p]? = some (wkO K r i a n c a' n' c') := (hg.block p h.plt (fun e => h.nes e.symm)).trans h.blk
  have hop : w1.ownsRow B 223 3 (.slice a' n' c') n' (flat soC opn) := h.opens.kept hg (own_ne2 h.opens h.stack (by decide))
  refine ⟨⟨a2, c2, h.base, by simpa using wk_set hp 3 (.slice a2 (n + t.size) c2), ?_, ownsRow_setCell_other hop h.neo _⟩, ?_⟩
  · rw [cells_bytes, show u8s stk ++ u8s t.data.toList = u8s (stk ++ t.data.toList) by simp [u8s]] at ho
    exact ownsRow_setCell_other ho (own_ne ho hp (by decide)) _
  · exact ⟨((Below.refl B w).grown hg h.low (fun k hk => (h.stack.lt k hk).1)).setCell (p := ⟨p, 3, none⟩) h.base _, ((Keeps.refl w).grown hg (own_part h.stack (.inr (.inl rfl)))).set hp (.inl rfl)⟩
theorem WAt.opened {z : SO} (h : WAt B p K r i a n c a' n' c' stk opn w) (g : Opened B p n' c' a' (flat soC opn) (soC z) w w') :
    (∃ a2 c2, WAt B p K r i a n c a2 (n' + 1) c2 stk (opn ++ [z]) w') ∧ Fr B w w' := by
  obtain ⟨a2, c2, w1, O, ho, hg, rfl⟩ := g
  have hp : w1.heap[p]? = some (wkO K r i a n c a' n' c') := (hg.block p (by have := h.plt; simp; omega) (fun e => h.neo e.symm)).trans ((Below.heap_alloc w O p h.plt).trans h.blk)
  have hst : w1.ownsRow B 5 1 (.slice a n c) n (u8s stk) := (h.stack.alloc O).kept hg (own_ne2 h.stack h.opens (by decide))
  refine ⟨⟨a2, c2, h.base, by simpa using wk_set hp 4 (.slice a2 (n' + 1) c2), ownsRow_setCell_other hst h.nes _, ?_⟩, ?_⟩
  · rw [← flat_snoc] at ho
    exact ownsRow_setCell_other ho (own_ne ho hp (by decide)) _
  · exact ⟨(((Below.refl B w).alloc h.low O).grown hg (by have := h.low; simp; omega) (fun k hk => (h.opens.lt k hk).1)).setCell (p := ⟨p, 4, none⟩) h.base _, (((Keeps.refl w).alloc O).grown hg (own_part (h.opens.alloc O) (.inr (.inr rfl)))).set hp (.inl rfl)⟩
theorem WAt.closed {g m : Nat} {os : List SO} {z : SO} (h : WAt B p K r i a n c (some ⟨g, 0, none⟩) (m + 1) c' stk (os ++ [z]) w) (q : Nat) :
    WAt B p K r i a n c (some ⟨g, 0, none⟩) m c' stk os ((w.drewN q).setCell ⟨p, 4, none⟩ (.slice (some ⟨g, 0, none⟩) m c')) ∧ Fr B w ((w.drewN q).setCell ⟨p, 4, none⟩ (.slice (some ⟨g, 0, none⟩) m c')) := by
  have h' := h.dn q
  have hl := h.olen
  have ho : w.ownsRow B 223 3 (.slice (some ⟨g, 0, none⟩) (m + 1) c') (m + 1) (flat soC os ++ soC z) := by
    have := h.opens
    rwa [flat_snoc] at this
  refine ⟨⟨h.base, by simpa using wk_set h'.blk 4 (.slice (some ⟨g, 0, none⟩) m c'), ownsRow_setCell_other h'.stack h.nes _, ownsRow_setCell_other (a := ⟨p, 4, none⟩) (own_dn (own_less ho (by rw [flat_len soC_len]; simp at hl; omega)) q) (show Value.ownBlock (.slice (some ⟨g, 0, none⟩) m c') ≠ some p from h.neo) _⟩, ?_⟩
  exact ⟨(bel_dn (Below.refl B w) q).setCell (p := ⟨p, 4, none⟩) h.base _, ((Keeps.refl w).dn q).set h.blk (.inl rfl)⟩
theorem flat_last {os : List SO} {x : Int} {y : Int} {m : Nat} (hm : os.length = m) : (flat soC (os ++ [(x, y, true)])).set (m * 3 + 2) (.bool false) = flat soC (os ++ [(x, y, false)]) := by
  rw [flat_snoc, flat_snoc, List.set_append_right _ _ (by rw [flat_len soC_len]; omega), flat_len soC_len, hm, show m * 3 + 2 - m * 3 = 2 by omega]
  rfl
theorem WAt.elsed {g m : Nat} {os : List SO} {x y : Int} (h : WAt B p K r i a n c (some ⟨g, 0, none⟩) (m + 1) c' stk (os ++ [(x, y, true)]) w) (q : Nat) :
    WAt B p K r i a n c (some ⟨g, 0, none⟩) (m + 1) c' stk (os ++ [(x, y, false)]) ((w.drewN q).setCell ⟨g, m * 3 + 2, none⟩ (.bool false)) ∧ Fr B w ((w.drewN q).setCell ⟨g, m * 3 + 2, none⟩ (.bool false)) := by
  have h' := h.dn q
  have hl : os.length = m := by have := h.olen; simp at this; omega
  have hst := (h'.opens.stored (m * 3 + 2) (.bool false)).1
  rw [flat_last hl] at hst
  have hgp : g ≠ p := fun e => h.neo (by simp [Value.ownBlock, e])
  refine ⟨⟨h.base, ?_, ownsRow_setCell_other h'.stack ?_ _, hst⟩, ?_⟩
  · rw [heap_setCell_other _ _ _ _ (fun e => hgp e.symm)]
    exact h'.blk
  · have := own_ne2 h.stack h.opens (by decide)
    rcases this with e | e
    · rw [e]; simp
    · exact e
  · obtain ⟨cs, f, hc⟩ := Lib.ownsRow_kind h.opens g rfl
    exact ⟨(bel_dn (Below.refl B w) q).setCell (p := ⟨g, m * 3 + 2, none⟩) (h.opens.lt g rfl).1 _, ((Keeps.refl w).dn q).set hc (.inr (.inr rfl))⟩
end
end Go.Proofs.YtmpppfibeoghaaaGreatDoor
namespace Go.Proofs.YtmpppfibeoghaaaGreatDoor
open Go.ChangeShapes Go.WideShapes Go.ChangeAt Go.RowKit
set_option linter.unusedVariables false
/-- An open structure of the plain verifier as impl keeps it. -/
def so (o : VO) : SO := (o.pos, (o.stk.length : Int), o.op == 21)
/-- What lies below an open structure is still there. -/
structure VW.pre (w : VW) : Prop where
  pfx : ∀ o ∈ w.opn, o.stk <+: w.stk
  asc : w.opn.Pairwise (fun a b => a.stk.length ≤ b.stk.length)
  s8 : w.stk.length ≤ 8
  o4 : w.opn.length ≤ 4
theorem pre_start : VW.pre ⟨[], []⟩ := ⟨by simp, .nil, Nat.zero_le _, Nat.zero_le _⟩
def WStat (B p : Nat) (K : Value) (r i : Int) (v : VW) (w : World) : Prop := ∃ a n c a' n' c', WAt B p K r i a n c a' n' c' v.stk (v.opn.map so) w
theorem opn_cases (l : List VO) : l = [] ∨ ∃ os o, l = os ++ [o] := by
  rcases List.eq_nil_or_concat l with h | ⟨os, o, h⟩
  · exact .inl h
  · exact .inr ⟨os, o, by simpa using h⟩
theorem floor_nil (st : List UInt8) : VW.floor ⟨st, []⟩ = 0 := rfl
section
variable {B p : Nat} {K : Value} {r i : Int} {a a' : Option Addr} {n c n' c' : Nat} {stk : List UInt8} {opn : List SO} {w w' : World}
theorem WAt.opened_row {os : List SO} {z : SO} (h : WAt B p K r i a n c a' n' c' stk (os ++ [z]) w) : ∃ g m, a' = some ⟨g, 0, none⟩ ∧ n' = m + 1 ∧ os.length = m ∧ m + 1 ≤ c' := by
  have hl := h.olen
  simp only [List.length_append, List.length_singleton] at hl
  rcases h.opens.2 with ⟨_, h0⟩ | ⟨g, cap, cur, e, _, _, hc, _⟩
  · omega
  · simp only [Value.slice.injEq] at e
    obtain ⟨rfl, _, rfl⟩ := e
    exact ⟨g, os.length, rfl, hl.symm, rfl, by omega⟩
theorem WAt.last {os : List SO} {z : SO} {g m : Nat} (h : WAt B p K r i a n c (some ⟨g, 0, none⟩) (m + 1) c' stk (os ++ [z]) w) :
    w.cell? ⟨g, m * 3, none⟩ = some (.int .i64 z.1) ∧ w.cell? ⟨g, m * 3 + 1, none⟩ = some (.int .i64 z.2.1) ∧ w.cell? ⟨g, m * 3 + 2, none⟩ = some (.bool z.2.2) ∧ ∀ k, w.frozen? ⟨g, k, none⟩ = false := by
  have hl : os.length = m := by have := h.olen; simp at this; omega
  have hat : ∀ j, j < 3 → w.cell? ⟨g, m * 3 + j, none⟩ = (soC z)[j]? := fun j hj => by
    rw [h.opens.cellAt _ (by omega)]
    exact flat_at soC_len (show (os ++ [z])[m]? = some z by rw [← hl]; simp) hj
  exact ⟨hat 0 (by omega), hat 1 (by omega), hat 2 (by omega), fun k => h.opens.frozenAt k⟩
theorem WAt.floor {v : VW} (h : WAt B p K r i a n c a' n' c' v.stk (v.opn.map so) w) (hp : v.pre) : Floor p v.floor w := by
  obtain ⟨st, opn⟩ := v
  rcases opn_cases opn with rfl | ⟨os, o, rfl⟩
  · have hl := h.olen
    simp at hl
    subst hl
    exact floor_none p c' a' w h.cells.2.2.2.2
  · have h' := h
    rw [List.map_append, List.map_singleton] at h'
    obtain ⟨g, m, rfl, rfl, hm, hc⟩ := h'.opened_row
    have h4 := hp.o4
    simp at h4 hm
    have hk := h'.last.2.1
    have e : VW.floor ⟨st, os ++ [o]⟩ = o.stk.length := floor_snoc st os o
    rw [e]
    exact floor_some p g m c' o.stk.length (by omega) w h'.cells.2.2.2.2 hk
end
theorem u8s_bytes {w : World} {B g n c : Nat} {st : List UInt8} (h : w.ownsRow B 5 1 (.slice (some ⟨g, 0, none⟩) n c) n (u8s st)) (r k : Nat) (hk : r + k = n) (cc : Nat) (q : Nat) :
    (convert 22 9 (.slice (some ⟨g, r, none⟩) k cc)).run Tryz.prog (w.drewN q) = .ok (.string ⟨(st.drop r).toArray⟩) (w.drewN q) := by
  have hl : st.length = n := by have := h.1; rw [u8s_len] at this; omega
  have hk' : k = (st.drop r).length := by rw [List.length_drop]; omega
  rw [hk']
  exact run_convert_bytes_back (P := Tryz.prog) (w.drewN q) 22 9 5 ⟨g, r, none⟩ cc (st.drop r) Tryz.underlying22 Tryz.underlying5 Tryz.underlying9 (fun j hj => by
    have hc := h.cellAt (r + j) (by rw [List.length_drop] at hj; omega)
    rw [List.length_drop] at hj
    have h2 : (u8s st)[r + j]? = some (.int .u8 ((st.drop r)[j]'(by rw [List.length_drop]; omega)).toNat) := by simp [u8s, List.getElem?_eq_getElem (show r + j < st.length by omega)]
    rw [h2] at hc
    rw [show (⟨g, r, none⟩ : Addr).add j = ⟨g, r + j, none⟩ by simp [Addr.add]]
    exact hc)
theorem beq_yes {x y : List UInt8} {u t : ByteArray} (hu : u.data.toList = x) (ht : t.data.toList = y) (h : x = y) : (u.toList == t.toList) = true := by
  rw [ByteArray.toList_eq, ByteArray.toList_eq, hu, ht, h]
  simp
theorem beq_no {x y : List UInt8} {u t : ByteArray} (hu : u.data.toList = x) (ht : t.data.toList = y) (h : x ≠ y) : (u.toList == t.toList) = false := by
  rw [ByteArray.toList_eq, ByteArray.toList_eq, hu, ht]
  simpa using h
/-- pop, in the plain verifier's words. -/
theorem pop_any {B p : Nat} {K : Value} {r i : Int} {v : VW} {w : World} (h : WStat B p K r i v w) (hp : v.pre) (t : ByteArray) (ht : t.size ≤ 3) :
    Calls Tryz.prog 201 #[.pointer (some ⟨p, 0, none⟩), .string t] w fun e w' => Below B w w' ∧
      (((vTake v.stk t.data.toList v.floor).2 = 0 ∧ e = .returned (.tuple #[]) ∧ WStat B p K r i ⟨(vTake v.stk t.data.toList v.floor).1, v.opn⟩ w' ∧ Keeps w w') ∨ ((vTake v.stk t.data.toList v.floor).2 ≠ 0 ∧ e = Off i (vTake v.stk t.data.toList v.floor).2)) := by
  obtain ⟨a, n, c, a', n', c', h⟩ := h
  have hn := h.slen
  have h8 := hp.s8
  obtain ⟨c0, c1, c2, c3, c4⟩ := h.cells
  have hfl := h.floor hp
  have hfle : v.floor ≤ v.stk.length := by
    obtain ⟨st, opn⟩ := v
    rcases opn_cases opn with rfl | ⟨os, o, rfl⟩
    · exact Nat.zero_le _
    · rw [floor_snoc]
      exact (hp.pfx o (by simp)).length_le
  have hts : t.data.toList.length = t.size := rfl
  generalize hF : v.floor = f at *
  by_cases h1 : v.stk.length < f + t.data.toList.length
  · have e : vTake v.stk t.data.toList f = ([], 13) := if_pos h1
    rw [e]
    exact (pop_short p n c f a i t (by omega) (by omega) (by omega) w c3 (fun q => c2) hfl).mono fun e w' ⟨he, q, hw⟩ => ⟨hw ▸ bel_dn (Below.refl B w) q, .inr ⟨by decide, he⟩⟩
  · have hk : n = (n - t.size) + t.size := by omega
    have hst : v.stk = v.stk.take (n - t.size) ++ v.stk.drop (n - t.size) := (List.take_append_drop _ _).symm
    have hdl : v.stk.length - t.data.toList.length = n - t.size := by omega
    by_cases h2 : v.stk.drop (n - t.size) = t.data.toList
    · have e : vTake v.stk t.data.toList f = (v.stk.take (n - t.size), 0) := by unfold vTake; rw [if_neg h1, hdl, if_pos h2]
      rw [e]
      rcases h.stack.2 with ⟨e0, h0⟩ | ⟨g, cap, cur, e0, _, _, hcap, _⟩
      · simp only [Value.slice.injEq] at e0
        obtain ⟨rfl, rfl, rfl⟩ := e0
        have ht0 : t.size = 0 := by omega
        have hs0 : v.stk = [] := List.eq_nil_of_length_eq_zero hn
        have hf0 : f = 0 := by omega
        subst hf0
        refine (pop_nil p t ht0 w c3 (h.frozen 3) hfl (fun q => by have := Lib.run_convert_nil_bytes (P := Tryz.prog) (w.drewN q) 22 9 5 0 Tryz.underlying22 Tryz.underlying5 Tryz.underlying9; simpa using this) (by rw [ByteArray.toList_eq]; have : t.data.toList = [] := List.eq_nil_of_length_eq_zero (by omega); rw [this]; rfl)).mono fun e w' ⟨he, q, hw⟩ => ?_
        subst hw
        obtain ⟨h3, h4⟩ := h.popnil q
        exact ⟨h4.1, .inl ⟨rfl, he, ⟨none, 0, 0, a', n', c', by rw [hs0] at h3; simpa [hs0] using h3⟩, h4.2⟩⟩
      · simp only [Value.slice.injEq] at e0
        obtain ⟨rfl, _, rfl⟩ := e0
        have hR : w.ownsRow B 5 1 (.slice (some ⟨g, 0, none⟩) n c) n (u8s v.stk) := h.stack
        have hu : (⟨(v.stk.drop (n - t.size)).toArray⟩ : ByteArray).data.toList = v.stk.drop (n - t.size) := by simp
        have h' := h
        rw [hst] at h'
        rw [hk] at h' c3 hcap
        rw [show n - t.size + t.size - t.size = n - t.size by omega] at h'
        refine (pop_some p g (n - t.size) c f t ⟨(v.stk.drop (n - t.size)).toArray⟩ hcap (by omega) (by omega) w c3 (h.frozen 3) hfl (fun q cc => u8s_bytes hR (n - t.size) t.size (by omega) cc q) (fun hr q cc => ?_) (beq_yes hu rfl h2)).mono fun e w' ⟨he, q, hw⟩ => ?_
        · have ht0 : t.size = 0 := by omega
          have e1 : v.stk.drop (n - t.size) = [] := List.drop_eq_nil_of_le (by omega)
          rw [e1, ht0]
          exact run_convert_bytes_back (P := Tryz.prog) (w.drewN q) 22 9 5 ⟨g, 0, none⟩ cc [] Tryz.underlying22 Tryz.underlying5 Tryz.underlying9 (fun j hj => by simp at hj)
        · subst hw
          obtain ⟨h3, h4⟩ := h'.popped (by simp; omega) q
          exact ⟨h4.1, .inl ⟨rfl, he, ⟨_, _, _, a', n', c', h3⟩, h4.2⟩⟩
    · have e : vTake v.stk t.data.toList f = ([], 12) := by unfold vTake; rw [if_neg h1, hdl, if_neg h2]
      rw [e]
      have hz : 0 < t.size := by
        rcases Nat.eq_zero_or_pos t.size with h0 | h0
        · refine absurd ?_ h2
          rw [List.drop_eq_nil_of_le (by omega)]
          exact (List.eq_nil_of_length_eq_zero (by omega)).symm
        · exact h0
      rcases h.stack.2 with ⟨e0, h0⟩ | ⟨g, cap, cur, e0, _, _, hcap, _⟩
      · omega
      · simp only [Value.slice.injEq] at e0
        obtain ⟨rfl, _, rfl⟩ := e0
        have hR : w.ownsRow B 5 1 (.slice (some ⟨g, 0, none⟩) n c) n (u8s v.stk) := h.stack
        have hu : (⟨(v.stk.drop (n - t.size)).toArray⟩ : ByteArray).data.toList = v.stk.drop (n - t.size) := by simp
        rw [hk] at c3 hcap
        exact (pop_type p g (n - t.size) c f i t ⟨(v.stk.drop (n - t.size)).toArray⟩ hcap (by omega) hz (by omega) w c3 (fun q => c2) hfl (fun q cc => u8s_bytes hR (n - t.size) t.size (by omega) cc q) (beq_no hu rfl h2)).mono fun e w' ⟨he, q, hw⟩ => ⟨hw ▸ bel_dn (Below.refl B w) q, .inr ⟨by decide, he⟩⟩
end Go.Proofs.YtmpppfibeoghaaaGreatDoor
namespace Go.Proofs.YtmpppfibeoghaaaGreatDoor
open Go.ChangeShapes Go.WideShapes Go.ChangeAt Go.RowKit
set_option linter.unusedVariables false
theorem push_any {B p : Nat} {K : Value} {r i : Int} {v : VW} {w : World} (h : WStat B p K r i v w) (hp : v.pre) (t : ByteArray) (ht : t.size ≤ 3) :
    Calls Tryz.prog 202 #[.pointer (some ⟨p, 0, none⟩), .string t] w fun e w' => Below B w w' ∧
      ((v.stk.length + t.data.toList.length ≤ 8 ∧ e = .returned (.tuple #[]) ∧ WStat B p K r i ⟨v.stk ++ t.data.toList, v.opn⟩ w' ∧ Keeps w w') ∨ (8 < v.stk.length + t.data.toList.length ∧ e = Off i 7)) := by
  obtain ⟨a, n, c, a', n', c', h⟩ := h
  have hn := h.slen
  have h8 := hp.s8
  obtain ⟨c0, c1, c2, c3, c4⟩ := h.cells
  have hts : t.data.toList.length = t.size := rfl
  rw [hts]
  by_cases h1 : n + t.size ≤ 8
  · refine (push_ok B p n c a (u8s v.stk) t h1 w h.low h.plt c3 (h.frozen 3) h.stack (fun e => h.nes e.symm)).mono fun e w' ⟨he, hw⟩ => ?_
    obtain ⟨⟨a2, c2', h2⟩, hb⟩ := h.pushed hw
    exact ⟨hb.1, .inl ⟨by omega, he, ⟨a2, n + t.size, c2', a', n', c', h2⟩, hb.2⟩⟩
  · exact (push_no B p n c a (u8s v.stk) t i (by omega) (by omega) (by omega) w h.low h.plt c3 (h.frozen 3) h.stack (fun e => h.nes e.symm) h.base c2).mono fun e w' ⟨he, hw⟩ => ⟨hw, .inr ⟨by omega, he⟩⟩
def vFind (ks : List Int) (r : Int) (x : Ins) : Int := if (x.1 = 19 ∨ x.1 = 20) ∧ (ks.length : Int) ≤ x.2 then 5 else if x.1 = 26 ∧ r ≤ x.2 then 15 else 0
theorem find_any {B p : Nat} {k : Option Addr} {kc : Nat} {ks : List Int} {r i : Int} {v : VW} {w : World} (h : WStat B p (.slice k ks.length kc) r i v w) (x y : Int) :
    Calls Tryz.prog 199 #[.pointer (some ⟨p, 0, none⟩), .agg #[.int .i64 x, .int .i64 y]] w fun e w' => Below w.heap.size w w' ∧
      ((vFind ks r (x, y) = 0 ∧ e = .returned (.tuple #[])) ∨ (vFind ks r (x, y) ≠ 0 ∧ e = Off i (vFind ks r (x, y)))) := by
  obtain ⟨a, n, c, a', n', c', h⟩ := h
  obtain ⟨c0, c1, c2, c3, c4⟩ := h.cells
  by_cases h1 : x = 19 ∨ x = 20
  · by_cases h2 : (ks.length : Int) ≤ y
    · have e : vFind ks r (x, y) = 5 := if_pos ⟨h1, h2⟩
      rw [e]
      exact (find_block_no p ks.length kc k x y i h1 h2 w h.plt c0 c2).mono fun e w' ⟨he, hb⟩ => ⟨hb, .inr ⟨by decide, he⟩⟩
    · have e : vFind ks r (x, y) = 0 := by unfold vFind; rw [if_neg (fun q => h2 q.2), if_neg (fun q => by have := q.1; simp only at this; omega)]
      rw [e]
      exact (find_block_ok p ks.length kc k x y h1 (by omega) w h.plt c0).mono fun e w' ⟨he, hb⟩ => ⟨hb, .inl ⟨rfl, he⟩⟩
  · by_cases h3 : x = 26
    · subst h3
      by_cases h4 : r ≤ y
      · have e : vFind ks r (26, y) = 15 := by unfold vFind; rw [if_neg (fun q => h1 q.1), if_pos ⟨rfl, h4⟩]
        rw [e]
        exact (find_call_no p y r i h4 w h.plt c1 c2).mono fun e w' ⟨he, hb⟩ => ⟨hb, .inr ⟨by decide, he⟩⟩
      · have e : vFind ks r (26, y) = 0 := by unfold vFind; rw [if_neg (fun q => h1 q.1), if_neg (fun q => h4 q.2)]
        rw [e]
        exact (find_call_ok p y r (by omega) w h.plt c1).mono fun e w' ⟨he, hb⟩ => ⟨hb, .inl ⟨rfl, he⟩⟩
    · have e : vFind ks r (x, y) = 0 := by unfold vFind; rw [if_neg (fun q => h1 q.1), if_neg (fun q => h3 q.1)]
      rw [e]
      exact (find_plain p x y w (beq_eq_false_iff_ne.2 (by omega)) (beq_eq_false_iff_ne.2 (by omega)) (beq_eq_false_iff_ne.2 h3)).mono fun e w' ⟨he, hb⟩ => ⟨hb, .inl ⟨rfl, he⟩⟩
theorem effT_sign : ∀ k : Nat, k < 27 → 1 ≤ k → k ≠ 19 → ∀ (ks : List Int) (y : Int), (effT k).data.toList = (vSign ks ((k : Int), y)).1 ∧ (effG k).data.toList = (vSign ks ((k : Int), y)).2 := by
  intro k hk h1 h19 ks y
  have : k = 1 ∨ k = 2 ∨ k = 3 ∨ k = 4 ∨ k = 5 ∨ k = 6 ∨ k = 7 ∨ k = 8 ∨ k = 9 ∨ k = 10 ∨ k = 11 ∨ k = 12 ∨ k = 13 ∨ k = 14 ∨ k = 15 ∨ k = 16 ∨ k = 17 ∨ k = 18 ∨ k = 20 ∨ k = 21 ∨ k = 22 ∨ k = 23 ∨ k = 24 ∨ k = 25 ∨ k = 26 := by omega
  rcases this with rfl | rfl | rfl | rfl | rfl | rfl | rfl | rfl | rfl | rfl | rfl | rfl | rfl | rfl | rfl | rfl | rfl | rfl | rfl | rfl | rfl | rfl | rfl | rfl | rfl <;> exact ⟨rfl, rfl⟩
theorem tkL_len3 (k : Int) : (tkL k).length ≤ 3 := by
  unfold tkL
  repeat' split
  all_goals decide
theorem sign_len (ks : List Int) (x : Ins) : (vSign ks x).1.length ≤ 3 ∧ (vSign ks x).2.length ≤ 1 := by
  unfold vSign
  repeat' split
  all_goals refine ⟨?_, ?_⟩
  all_goals first | exact tkL_len3 _ | decide | exact Nat.le_refl _
theorem effectOf_any {k : Option Addr} {kc : Nat} {ks : List Int} {r : Int} {w : World} (x y : Int) (hx : okB x y = true) (hf : vFind ks r (x, y) = 0)
    (ht : EffTab w) (hfb : FbTab w) (hk : Lies w k (kC ks)) (hkv : ∀ z ∈ ks, kindB z = true) :
    Calls Tryz.prog 200 #[.agg #[.int .i64 x, .int .i64 y], .slice k ks.length kc] w fun e w' => Below w.heap.size w w' ∧
      ∃ T G : ByteArray, e = .returned (.agg #[.string T, .string G]) ∧ T.data.toList = (vSign ks (x, y)).1 ∧ G.data.toList = (vSign ks (x, y)).2 := by
  obtain ⟨q, rfl, q1, q2, q3, q4⟩ := okB_nat hx
  by_cases h19 : q = 19
  · subst h19
    have hy0 : 0 ≤ y := by have : opLo 19 = 0 := rfl; omega
    obtain ⟨m, rfl⟩ : ∃ m : Nat, y = m := ⟨y.toNat, by omega⟩
    have hm : m < ks.length := by
      unfold vFind at hf
      by_cases hh : (ks.length : Int) ≤ (m : Int)
      · rw [if_pos ⟨.inl rfl, hh⟩] at hf
        exact absurd hf (by decide)
      · omega
    obtain ⟨b, o, rfl, hbl, hcs⟩ := hk.open (by rw [kC_len]; omega)
    have hc := hcs m (.int .i64 (ks.getD m 0)) (by simp [kC, List.getD, hm])
    refine (effectOf_block b o ks.length kc ks m hm w ht hfb hbl hc).mono fun e w' ⟨he, hb⟩ => ⟨hb, _, _, he, ?_, rfl⟩
    rw [takesF_list _ (hkv _ (by simp [List.getD, hm]))]
    show tkL (ks.getD m 0) = _
    simp [vSign]
  · obtain ⟨e1, e2⟩ := effT_sign q (by omega) q1 h19 ks y
    exact (effectOf_plain q y k ks.length kc (by omega) (beq_eq_false_iff_ne.2 (by omega)) w ht).mono fun e w' ⟨he, hb⟩ => ⟨hb, _, _, he, e1, e2⟩
end Go.Proofs.YtmpppfibeoghaaaGreatDoor
namespace Go.Proofs.YtmpppfibeoghaaaGreatDoor
open Go.ChangeShapes Go.WideShapes Go.ChangeAt Go.RowKit
set_option linter.unusedVariables false
theorem pfx_eq {s t : List UInt8} (h : s <+: t) : (t ≠ s) ↔ (t.length : Int) ≠ (s.length : Int) := by
  constructor
  · intro hne e
    exact hne (h.eq_of_length (by omega)).symm
  · intro hne e
    subst e
    exact hne rfl
theorem last_snoc (os : List VO) (o : VO) : (os ++ [o]).getLast? = some o := by simp
theorem drop_snoc (os : List VO) (o : VO) : (os ++ [o]).dropLast = os := by simp
def NestOut (x : Ins) (i : Int) (v : VW) : VW × Int := if 21 ≤ x.1 ∧ x.1 ≤ 24 then vNest x i v else (v, 0)
theorem nest_any {B p : Nat} {K : Value} {r i : Int} {v : VW} {w : World} (h : WStat B p K r i v w) (hp : v.pre) (x y : Int) :
    Calls Tryz.prog 203 #[.pointer (some ⟨p, 0, none⟩), .int .i64 x] w fun e w' => Below B w w' ∧
      (((NestOut (x, y) i v).2 = 0 ∧ e = .returned (.tuple #[]) ∧ WStat B p K r i (NestOut (x, y) i v).1 w' ∧ Keeps w w') ∨ ((NestOut (x, y) i v).2 ≠ 0 ∧ e = Off i (NestOut (x, y) i v).2)) := by
  obtain ⟨a, n, c, a', n', c', h⟩ := h
  have hn := h.slen
  have ho := h.olen
  have h8 := hp.s8
  have h4 := hp.o4
  obtain ⟨c0, c1, c2, c3, c4⟩ := h.cells
  obtain ⟨st, opn⟩ := v
  simp only [List.length_map] at ho h4 hn h8
  by_cases h0 : 21 ≤ x ∧ x ≤ 24
  · have e0 : NestOut (x, y) i ⟨st, opn⟩ = vNest (x, y) i ⟨st, opn⟩ := if_pos h0
    rw [e0]
    by_cases h1 : x = 21 ∨ x = 24
    · by_cases h5 : opn.length = 4
      · have e : vNest (x, y) i ⟨st, opn⟩ = (⟨st, opn⟩, 17) := by unfold vNest; rw [if_pos h1, if_pos h5]
        rw [e]
        have hn4 : n' = 4 := by omega
        subst hn4
        exact (nest_deep p c' a' x i h1 w c2 c4).mono fun e w' ⟨he, hw⟩ => ⟨hw ▸ Below.refl B _, .inr ⟨by simp, he⟩⟩
      · have e : vNest (x, y) i ⟨st, opn⟩ = (⟨st, opn ++ [⟨i, x, st⟩]⟩, 0) := by unfold vNest; rw [if_pos h1, if_neg h5]
        rw [e]
        refine (nest_open B p n c n' c' a a' (flat soC (opn.map so)) i x h1 (by omega) (by omega) w h.low h.plt c2 c3 c4 (h.frozen 4) h.opens (fun e => h.neo e.symm)).mono fun e w' ⟨he, hw⟩ => ?_
        have hz : [Value.int .i64 i, .int .i64 n, .bool (x == 21)] = soC (so ⟨i, x, st⟩) := by simp [so, soC, hn]
        rw [hz] at hw
        obtain ⟨⟨a2, c2', h2⟩, hb⟩ := h.opened hw
        exact ⟨hb.1, .inl ⟨rfl, he, ⟨a, n, c, a2, n' + 1, c2', by simpa using h2⟩, hb.2⟩⟩
    · have h1' : x = 22 ∨ x = 23 := by omega
      rcases opn_cases opn with rfl | ⟨os, o, rfl⟩
      · have e : vNest (x, y) i ⟨st, []⟩ = (⟨st, []⟩, 14) := by unfold vNest; rw [if_neg h1]; rfl
        rw [e]
        simp at ho
        subst ho
        exact (nest_none p c' a' x i h1' w c2 c4).mono fun e w' ⟨he, hw⟩ => ⟨hw ▸ Below.refl B _, .inr ⟨by simp, he⟩⟩
      · have h' := h
        rw [List.map_append, List.map_singleton] at h'
        obtain ⟨g, m, rfl, rfl, hm, hc⟩ := h'.opened_row
        obtain ⟨k0, k1, k2, kf⟩ := h'.last
        have hm4 : m + 1 ≤ 100 := by omega
        have hpf : o.stk <+: st := hp.pfx o (by simp)
        have hpe := pfx_eq hpf
        rw [hn] at hpe
        by_cases h22 : x = 22
        · subst h22
          by_cases ht : o.op = 21
          · have kt : w.cell? ⟨g, m * 3 + 2, none⟩ = some (.bool true) := by rw [k2]; simp [so, ht]
            by_cases hl : st = o.stk
            · have e : vNest (22, y) i ⟨st, os ++ [o]⟩ = (⟨st, os ++ [⟨o.pos, 22, o.stk⟩]⟩, 0) := by
                unfold vNest; rw [if_neg h1]; simp only [last_snoc, drop_snoc]; rw [if_neg (by simp [ht]), if_neg (by simpa using hl)]; rfl
              rw [e]
              have hk1 : w.cell? ⟨g, m * 3 + 1, none⟩ = some (.int .i64 n) := by rw [k1]; simp [so, ← hn, hl]
              refine (else_ok p g m c' n c a hm4 w (fun q => c3) c4 kt (kf _) (fun q => hk1)).mono fun e w' ⟨he, q, hw⟩ => ?_
              subst hw
              have hz : so o = (o.pos, (o.stk.length : Int), true) := by simp [so, ht]
              rw [hz] at h'
              obtain ⟨h2, hb⟩ := h'.elsed q
              exact ⟨hb.1, .inl ⟨rfl, he, ⟨a, n, c, _, _, c', by simpa [so] using h2⟩, hb.2⟩⟩
            · have e : vNest (22, y) i ⟨st, os ++ [o]⟩ = (⟨st, os ++ [o]⟩, 13) := by
                unfold vNest; rw [if_neg h1]; simp only [last_snoc, drop_snoc]; rw [if_neg (by simp [ht]), if_pos (by simpa using hl)]
              rw [e]
              exact (else_level p g m c' n c a i o.stk.length hm4 (hpe.1 hl) w (fun q => c2) (fun q => c3) c4 kt (fun q => k1)).mono fun e w' ⟨he, q, hw⟩ => ⟨hw ▸ bel_dn (Below.refl B w) q, .inr ⟨by simp, he⟩⟩
          · have e : vNest (22, y) i ⟨st, os ++ [o]⟩ = (⟨st, os ++ [o]⟩, 14) := by
              unfold vNest; rw [if_neg h1]; simp only [last_snoc, drop_snoc]; rw [if_pos ⟨trivial, ht⟩]
            rw [e]
            have kt : w.cell? ⟨g, m * 3 + 2, none⟩ = some (.bool false) := by rw [k2]; simp [so, ht]
            exact (else_not p g m c' i hm4 w (fun q => c2) c4 kt).mono fun e w' ⟨he, q, hw⟩ => ⟨hw ▸ bel_dn (Below.refl B w) q, .inr ⟨by simp, he⟩⟩
        · have h23 : x = 23 := by omega
          subst h23
          by_cases hl : st = o.stk
          · have e : vNest (23, y) i ⟨st, os ++ [o]⟩ = (⟨st, os⟩, 0) := by
              unfold vNest; rw [if_neg h1]; simp only [last_snoc, drop_snoc]; rw [if_neg (by simp), if_neg (by simpa using hl)]; rfl
            rw [e]
            have hk1 : w.cell? ⟨g, m * 3 + 1, none⟩ = some (.int .i64 n) := by rw [k1]; simp [so, ← hn, hl]
            refine (end_ok p g m c' n c a hm4 hc w (fun q => c3) c4 (h.frozen 4) (fun q => hk1)).mono fun e w' ⟨he, q, hw⟩ => ?_
            subst hw
            obtain ⟨h2, hb⟩ := h'.closed q
            exact ⟨hb.1, .inl ⟨rfl, he, ⟨a, n, c, _, _, c', h2⟩, hb.2⟩⟩
          · have e : vNest (23, y) i ⟨st, os ++ [o]⟩ = (⟨st, os ++ [o]⟩, 13) := by
              unfold vNest; rw [if_neg h1]; simp only [last_snoc, drop_snoc]; rw [if_neg (by simp), if_pos (by simpa using hl)]
            rw [e]
            exact (end_level p g m c' n c a i o.stk.length hm4 (hpe.1 hl) w (fun q => c2) (fun q => c3) c4 (fun q => k1)).mono fun e w' ⟨he, q, hw⟩ => ⟨hw ▸ bel_dn (Below.refl B w) q, .inr ⟨by simp, he⟩⟩
  · have e0 : NestOut (x, y) i ⟨st, opn⟩ = (⟨st, opn⟩, 0) := if_neg h0
    rw [e0]
    exact (nest_plain p x w (beq_eq_false_iff_ne.2 (by omega)) (beq_eq_false_iff_ne.2 (by omega)) (beq_eq_false_iff_ne.2 (by omega)) (beq_eq_false_iff_ne.2 (by omega))).mono fun e w' ⟨he, hw⟩ => ⟨hw ▸ Below.refl B _, .inl ⟨rfl, he, ⟨a, n, c, a', n', c', hw ▸ h⟩, hw ▸ Keeps.refl _⟩⟩
end Go.Proofs.YtmpppfibeoghaaaGreatDoor
