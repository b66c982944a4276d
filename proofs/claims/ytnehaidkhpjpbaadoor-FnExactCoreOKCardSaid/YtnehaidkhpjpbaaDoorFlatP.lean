/- Flat code as a list: where each instruction may jump to. In accepted code every structure has its end. -/
import Derived.Test.YtnehaidkhpjpbaaDoorTree
import Derived.Test.YtnehaidkhpjpbaaDoorNestP
namespace Go.Proofs.YtnehaidkhpjpbaaDoor
set_option linter.unusedVariables false
theorem gd_at (a : List Ins) (x : Ins) (c : List Ins) : (a ++ x :: c).getD a.length (0, 0) = x := by simp [List.getD]
theorem gd_eq {a : List Ins} {x : Ins} {c : List Ins} {k : Nat} (h : k = a.length) : (a ++ x :: c).getD k (0, 0) = x := by rw [h]; exact gd_at a x c
mutual
theorem has_s : ∀ (s : St) (a c : List Ins) (k : Nat), s.pl → a.length ≤ k → k < a.length + s.fl.length → opens (a ++ s.fl ++ c) k → ∃ x, vMatch (a ++ s.fl ++ c) k = some x
  | .op x, a, c, k, hp, h1, h2, ho => by
    have hk : k = a.length := by simp [St.fl] at h2; omega
    have e : a ++ (St.op x).fl ++ c = a ++ x :: c := by simp [St.fl]
    rw [e] at ho
    unfold opens at ho
    rw [gd_eq hk] at ho
    rw [St.pl] at hp
    omega
  | .br b, a, c, k, hp, h1, h2, ho => by
    rw [St.pl] at hp
    by_cases hk : k = a.length
    · exact ⟨_, by rw [hk]; exact match_br hp⟩
    have e : a ++ (St.br b).fl ++ c = (a ++ [(21, 0)]) ++ flL b ++ ((23, 0) :: c) := by simp [St.fl]
    have hl : (St.br b).fl.length = (flL b).length + 2 := by simp [St.fl]
    rw [e] at ho ⊢
    by_cases hk2 : k < a.length + 1 + (flL b).length
    · exact has_l b _ _ k hp (by simp; omega) (by simp; omega) ho
    · exfalso
      have hk3 : k = (a ++ [(21, 0)] ++ flL b).length := by simp; omega
      unfold opens at ho
      rw [gd_eq hk3] at ho
      omega
  | .be b f, a, c, k, hp, h1, h2, ho => by
    rw [St.pl] at hp
    by_cases hk : k = a.length
    · exact ⟨_, by rw [hk]; exact match_be hp.1 hp.2⟩
    have hl : (St.be b f).fl.length = (flL b).length + (flL f).length + 3 := by simp [St.fl]; omega
    by_cases hk2 : k < a.length + 1 + (flL b).length
    · have e : a ++ (St.be b f).fl ++ c = (a ++ [(21, 0)]) ++ flL b ++ ((22, 0) :: (flL f ++ [(23, 0)] ++ c)) := by simp [St.fl]
      rw [e] at ho ⊢
      exact has_l b _ _ k hp.1 (by simp; omega) (by simp; omega) ho
    by_cases hk3 : k = a.length + 1 + (flL b).length
    · exfalso
      have e : a ++ (St.be b f).fl ++ c = (a ++ [(21, 0)] ++ flL b) ++ ((22, 0) :: (flL f ++ [(23, 0)] ++ c)) := by simp [St.fl]
      rw [e] at ho
      unfold opens at ho
      rw [gd_eq (by simp; omega)] at ho
      omega
    have e : a ++ (St.be b f).fl ++ c = (a ++ [(21, 0)] ++ flL b ++ [(22, 0)]) ++ flL f ++ ((23, 0) :: c) := by simp [St.fl]
    rw [e] at ho ⊢
    by_cases hk4 : k < a.length + 1 + (flL b).length + 1 + (flL f).length
    · exact has_l f _ _ k hp.2 (by simp; omega) (by simp; omega) ho
    · exfalso
      have hk5 : k = (a ++ [(21, 0)] ++ flL b ++ [(22, 0)] ++ flL f).length := by simp; omega
      unfold opens at ho
      rw [gd_eq hk5] at ho
      omega
  | .lp n b, a, c, k, hp, h1, h2, ho => by
    rw [St.pl] at hp
    by_cases hk : k = a.length
    · exact ⟨_, by rw [hk]; exact match_lp hp⟩
    have e : a ++ (St.lp n b).fl ++ c = (a ++ [(24, n)]) ++ flL b ++ ((23, 0) :: c) := by simp [St.fl]
    have hl : (St.lp n b).fl.length = (flL b).length + 2 := by simp [St.fl]
    rw [e] at ho ⊢
    by_cases hk2 : k < a.length + 1 + (flL b).length
    · exact has_l b _ _ k hp (by simp; omega) (by simp; omega) ho
    · exfalso
      have hk3 : k = (a ++ [(24, n)] ++ flL b).length := by simp; omega
      unfold opens at ho
      rw [gd_eq hk3] at ho
      omega
theorem has_l : ∀ (ts : List St) (a c : List Ins) (k : Nat), plL ts → a.length ≤ k → k < a.length + (flL ts).length → opens (a ++ flL ts ++ c) k → ∃ x, vMatch (a ++ flL ts ++ c) k = some x
  | [], a, c, k, hp, h1, h2, ho => by simp [flL] at h2; omega
  | s :: r, a, c, k, hp, h1, h2, ho => by
    rw [plL] at hp
    have hl : (flL (s :: r)).length = s.fl.length + (flL r).length := by simp [flL]
    by_cases hk : k < a.length + s.fl.length
    · have e : a ++ flL (s :: r) ++ c = a ++ s.fl ++ (flL r ++ c) := by simp [flL]
      rw [e] at ho ⊢
      exact has_s s _ _ k hp.1 h1 hk ho
    · have e : a ++ flL (s :: r) ++ c = (a ++ s.fl) ++ flL r ++ c := by simp [flL]
      rw [e] at ho ⊢
      exact has_l r _ _ k hp.2 (by simp; omega) (by simp; omega) ho
end
/-- In accepted code every structure has its end. -/
theorem has_match {code : List Ins} {kinds : List Int} {r : Int} (ha : vAll code = true) (h : (vVer code kinds r).2 = 0) {k : Nat} (hk : k < code.length) (ho : opens code k) : ∃ x, vMatch code k = some x := by
  obtain ⟨ts, rfl, hp⟩ := tree_of ha h
  have := has_l ts [] [] k hp (by simp) (by simpa using hk) (by simpa using ho)
  simpa using this
/-- What a match says, for the stores. -/
structure MOK (zs : List Ins) (k : Nat) (o e : Int) : Prop where
  lt : ∃ m : Nat, e = m ∧ k < m ∧ m < zs.length
  el : o = 0 ∨ ∃ m : Nat, o = m ∧ k < m ∧ (m : Int) < e
theorem match_ok {code : List Ins} {kinds : List Int} {r : Int} (ha : vAll code = true) (h : (vVer code kinds r).2 = 0) {k : Nat} (hk : k < code.length) (ho : opens code k) : ∃ o e, vMatch code k = some (o, e) ∧ MOK code k o e := by
  obtain ⟨x, hx⟩ := has_match ha h hk ho
  have hm : mAt code k = some x := by unfold mAt; rw [if_pos ho, hx]
  obtain ⟨⟨m, h1, h2, h3, _⟩, h4⟩ := mAt_found hm
  refine ⟨x.1, x.2, hx, ⟨⟨m, h3, h1, h2⟩, ?_⟩⟩
  rcases h4 with h4 | ⟨q, g1, _, g3, _, g5⟩
  · exact .inl h4
  · exact .inr ⟨q, g3, g1, by omega⟩
/-- The targets, behind the first k instructions. -/
def tosStep (zs : List Ins) (i : Nat) (tos : List Int) : List Int :=
  if (zs.getD i (0, 0)).1 = 21 then
    match vMatch zs i with
    | some (o, e) => if 0 < o then ((tos.set i (o + 1)).set o.toNat (e + 1)).set e.toNat (e + 1) else (tos.set i (e + 1)).set e.toNat (e + 1)
    | none => tos
  else if (zs.getD i (0, 0)).1 = 24 then
    match vMatch zs i with
    | some (_, e) => tos.set e.toNat ((i : Int) + 1)
    | none => tos
  else tos
def tosOf (zs : List Ins) : Nat → List Int
  | 0 => List.replicate zs.length 0
  | k + 1 => tosStep zs k (tosOf zs k)
theorem tosStep_len (zs : List Ins) (i : Nat) (tos : List Int) : (tosStep zs i tos).length = tos.length := by
  unfold tosStep
  split
  · split
    · split <;> simp
    · rfl
  · split
    · split <;> simp
    · rfl
theorem tosOf_len (zs : List Ins) : ∀ k, (tosOf zs k).length = zs.length
  | 0 => by simp [tosOf]
  | k + 1 => by rw [tosOf, tosStep_len, tosOf_len zs k]
theorem tosStep_be {zs : List Ins} {i : Nat} {tos : List Int} {o e : Int} (h1 : (zs.getD i (0, 0)).1 = 21) (h2 : vMatch zs i = some (o, e)) (h3 : 0 < o) : tosStep zs i tos = ((tos.set i (o + 1)).set o.toNat (e + 1)).set e.toNat (e + 1) := by
  unfold tosStep; rw [if_pos h1, h2]; exact if_pos h3
theorem tosStep_br {zs : List Ins} {i : Nat} {tos : List Int} {o e : Int} (h1 : (zs.getD i (0, 0)).1 = 21) (h2 : vMatch zs i = some (o, e)) (h3 : ¬ 0 < o) : tosStep zs i tos = (tos.set i (e + 1)).set e.toNat (e + 1) := by
  unfold tosStep; rw [if_pos h1, h2]; exact if_neg h3
theorem tosStep_lp {zs : List Ins} {i : Nat} {tos : List Int} {o e : Int} (h1 : (zs.getD i (0, 0)).1 = 24) (h2 : vMatch zs i = some (o, e)) : tosStep zs i tos = tos.set e.toNat ((i : Int) + 1) := by
  unfold tosStep; rw [if_neg (by rw [h1]; decide), if_pos h1, h2]
theorem tosStep_no {zs : List Ins} {i : Nat} {tos : List Int} (h1 : ¬ (zs.getD i (0, 0)).1 = 21) (h2 : ¬ (zs.getD i (0, 0)).1 = 24) : tosStep zs i tos = tos := by
  unfold tosStep; rw [if_neg h1, if_neg h2]
/-- The stores in another order. -/
theorem tos_be' {tos : List Int} {i o e : Nat} (h1 : i < o) (h2 : o < e) (x y : Int) : (((tos.set e y).set i y).set o y).set i x = ((tos.set i x).set o y).set e y := by
  apply List.ext_getElem?
  intro j
  simp only [List.getElem?_set, List.length_set]
  by_cases a : i = j <;> by_cases b : o = j <;> by_cases c : e = j <;> simp_all <;> omega
theorem tos_br' {tos : List Int} {i e : Nat} (h1 : i < e) (y : Int) : (tos.set e y).set i y = (tos.set i y).set e y := by
  rw [List.set_comm _ _ (by omega)]
theorem tos_be2 {tos : List Int} {i o e : Nat} (h1 : i < o) (h2 : o < e) (x y : Int) : (((tos.set i y).set i x).set o y).set e y = ((tos.set i x).set o y).set e y := by
  rw [List.set_set]
/-- The instructions that have been written so far; zeros behind them. -/
def hdOf (zs : List Ins) (k : Nat) : List Ins := zs.take k ++ List.replicate (zs.length - k) (0, 0)
theorem hdOf_len (zs : List Ins) {k : Nat} (h : k ≤ zs.length) : (hdOf zs k).length = zs.length := by simp [hdOf]; omega
theorem hdOf_step {zs : List Ins} {k : Nat} (h : k < zs.length) : (hdOf zs k).set k ((zs.getD k (0, 0)).1, (zs.getD k (0, 0)).2) = hdOf zs (k + 1) := by
  apply List.ext_getElem?
  intro j
  have hz : zs.getD k (0, 0) = zs[k] := by simp [List.getD, h]
  rw [hz]
  unfold hdOf
  by_cases e : j = k
  · subst e
    rw [List.getElem?_set_self (by simp; omega), List.getElem?_append_left (by simp; omega)]
    simp [h]
  · rw [List.getElem?_set_ne (by omega)]
    by_cases hj : j < k
    · rw [List.getElem?_append_left (by simp; omega), List.getElem?_append_left (by simp; omega), List.getElem?_take_of_lt hj, List.getElem?_take_of_lt (by omega)]
    · rw [List.getElem?_append_right (by simp; omega), List.getElem?_append_right (by simp; omega)]
      simp only [List.getElem?_replicate, List.length_take]
      by_cases hj2 : j < zs.length
      · rw [if_pos (by omega), if_pos (by omega)]
      · rw [if_neg (by omega), if_neg (by omega)]
theorem hdOf_end (zs : List Ins) : hdOf zs zs.length = zs := by simp [hdOf]
/-- Cells of flat code. -/
def f3C (z : Int × Int × Int) : List Value := [.int .i64 z.1, .int .i64 z.2.1, .int .i64 z.2.2]
theorem f3C_len (z : Int × Int × Int) : (f3C z).length = 3 := rfl
def z3 (hs : List Ins) (ts : List Int) : List (Int × Int × Int) := List.zipWith (fun h t => (h.1, h.2, t)) hs ts
theorem z3_len {hs : List Ins} {ts : List Int} (h : hs.length = ts.length) : (z3 hs ts).length = hs.length := by simp [z3, h]
def fl3 (hs : List Ins) (ts : List Int) : List Value := (z3 hs ts).flatMap f3C
theorem fl3_cons (h : Ins) (hs : List Ins) (t : Int) (ts : List Int) : fl3 (h :: hs) (t :: ts) = .int .i64 h.1 :: .int .i64 h.2 :: .int .i64 t :: fl3 hs ts := rfl
theorem fl3_to : ∀ (hs : List Ins) (ts : List Int) (j : Nat) (t : Int), hs.length = ts.length → (fl3 hs ts).set (j * 3 + 2) (.int .i64 t) = fl3 hs (ts.set j t)
  | [], [], j, t, _ => rfl
  | [], _ :: _, j, t, h => by simp at h
  | _ :: _, [], j, t, h => by simp at h
  | h :: hs, u :: ts, 0, t, e => rfl
  | h :: hs, u :: ts, j + 1, t, e => by
    have := fl3_to hs ts j t (by simpa using e)
    rw [List.set_cons_succ, fl3_cons, fl3_cons, ← this, show (j + 1) * 3 + 2 = (j * 3 + 2) + 1 + 1 + 1 by omega]
    rfl
theorem fl3_op : ∀ (hs : List Ins) (ts : List Int) (j : Nat) (x : Ins), hs.length = ts.length → ((fl3 hs ts).set (j * 3) (.int .i64 x.1)).set (j * 3 + 1) (.int .i64 x.2) = fl3 (hs.set j x) ts
  | [], [], j, t, _ => rfl
  | [], _ :: _, j, t, h => by simp at h
  | _ :: _, [], j, t, h => by simp at h
  | h :: hs, u :: ts, 0, x, e => rfl
  | h :: hs, u :: ts, j + 1, x, e => by
    have := fl3_op hs ts j x (by simpa using e)
    rw [List.set_cons_succ, fl3_cons, fl3_cons, ← this, show (j + 1) * 3 = (j * 3) + 1 + 1 + 1 by omega]
    rfl
theorem fl3_snoc : ∀ (hs : List Ins) (ts : List Int) (x : Ins) (t : Int), hs.length = ts.length → fl3 (hs ++ [x]) (ts ++ [t]) = fl3 hs ts ++ [.int .i64 x.1, .int .i64 x.2, .int .i64 t]
  | [], [], x, t, _ => rfl
  | [], _ :: _, j, t, h => by simp at h
  | _ :: _, [], j, t, h => by simp at h
  | h :: hs, u :: ts, x, t, e => by
    have := fl3_snoc hs ts x t (by simpa using e)
    rw [List.cons_append, List.cons_append, fl3_cons, fl3_cons, this]
    rfl
theorem fl3_len {hs : List Ins} {ts : List Int} (h : hs.length = ts.length) : (fl3 hs ts).length = hs.length * 3 := by
  unfold fl3
  have : ∀ l : List (Int × Int × Int), (l.flatMap f3C).length = l.length * 3 := by
    intro l
    induction l with
    | nil => rfl
    | cons a t ih => simp [List.flatMap_cons, ih, f3C_len]; omega
  rw [this, z3_len h]
theorem fl3_zero : ∀ n : Nat, fl3 (List.replicate n (0, 0)) (List.replicate n 0) = List.replicate (n * 3) (.int .i64 0)
  | 0 => rfl
  | n + 1 => by
    rw [List.replicate_succ, List.replicate_succ, fl3_cons, fl3_zero n, show (n + 1) * 3 = n * 3 + 1 + 1 + 1 by omega]
    rfl
/-- What FlatOf yields for accepted code. -/
def flatF (zs : List Ins) : List (Int × Int × Int) := z3 zs (tosOf zs zs.length)
theorem flatF_len (zs : List Ins) : (flatF zs).length = zs.length := by unfold flatF; exact z3_len (tosOf_len zs _).symm
end Go.Proofs.YtnehaidkhpjpbaaDoor
