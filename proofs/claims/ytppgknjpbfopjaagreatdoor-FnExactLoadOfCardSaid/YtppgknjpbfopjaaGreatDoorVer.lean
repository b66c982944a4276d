/- The verifier as a plain function of lists; code that is put together out of right pieces is accepted. -/
import Derived.WalkKit
namespace Go.Proofs.YtppgknjpbfopjaaGreatDoor
/-- An instruction: its operation and A. -/
abbrev Ins := Int × Int
/-- A branch or a loop that is open: where it began, its operation, the stack there. -/
structure VO where
  pos : Int
  op : Int
  stk : List UInt8
/-- What a verifier knows: the stack, and what is open, the innermost last. -/
structure VW where
  stk : List UInt8
  opn : List VO
def tkL (k : Int) : List UInt8 := if k = 1 then [98, 105] else if k = 2 then [98, 98, 105] else if k = 3 then [98] else [98, 98]
def vSign (kinds : List Int) (x : Ins) : List UInt8 × List UInt8 :=
  if x.1 = 1 ∨ x.1 = 3 ∨ x.1 = 20 then ([], [105])
  else if x.1 = 2 ∨ x.1 = 5 ∨ x.1 = 7 then ([], [98])
  else if x.1 = 4 then ([105], [])
  else if x.1 = 6 ∨ x.1 = 8 ∨ x.1 = 21 then ([98], [])
  else if x.1 = 9 ∨ x.1 = 10 ∨ x.1 = 11 ∨ x.1 = 12 then ([105, 105], [105])
  else if x.1 = 13 ∨ x.1 = 14 then ([105, 105], [98])
  else if x.1 = 15 ∨ x.1 = 16 then ([98, 98], [98])
  else if x.1 = 17 then ([98], [98])
  else if x.1 = 18 then ([98, 105, 105], [105])
  else if x.1 = 19 then (tkL (kinds.getD x.2.toNat 0), [98])
  else ([], [])
/-- The stack without what is taken; the code beside it. -/
def vTake (stk tk : List UInt8) (floor : Nat) : List UInt8 × Int :=
  if stk.length < floor + tk.length then ([], 13)
  else if stk.drop (stk.length - tk.length) = tk then (stk.take (stk.length - tk.length), 0) else ([], 12)
def VW.floor (w : VW) : Nat := match w.opn.getLast? with | none => 0 | some o => o.stk.length
def vNest (x : Ins) (i : Int) (w : VW) : VW × Int :=
  if x.1 = 21 ∨ x.1 = 24 then (if w.opn.length = 4 then (w, 17) else (⟨w.stk, w.opn ++ [⟨i, x.1, w.stk⟩]⟩, 0))
  else match w.opn.getLast? with
    | none => (w, 14)
    | some o =>
      if x.1 = 22 ∧ o.op ≠ 21 then (w, 14)
      else if w.stk ≠ o.stk then (w, 13)
      else if x.1 = 22 then (⟨w.stk, w.opn.dropLast ++ [⟨o.pos, 22, o.stk⟩]⟩, 0)
      else (⟨w.stk, w.opn.dropLast⟩, 0)
def vStep (kinds : List Int) (routines : Int) (x : Ins) (i : Int) (w : VW) : VW × Int :=
  if (x.1 = 19 ∨ x.1 = 20) ∧ (kinds.length : Int) ≤ x.2 then (w, 5)
  else if x.1 = 26 ∧ routines ≤ x.2 then (w, 15)
  else
    let t := vTake w.stk (vSign kinds x).1 w.floor
    if t.2 ≠ 0 then (w, t.2)
    else if 8 < t.1.length + (vSign kinds x).2.length then (w, 7)
    else
      let w' : VW := ⟨t.1 ++ (vSign kinds x).2, w.opn⟩
      if 21 ≤ x.1 ∧ x.1 ≤ 24 then vNest x i w' else (w', 0)
/-- The instructions in turn, up to the first that is refused: the state, the code, its index. -/
def vRun (kinds : List Int) (routines : Int) : List Ins → Nat → VW → VW × Int × Nat
  | [], i, w => (w, 0, i)
  | x :: r, i, w => if (vStep kinds routines x i w).2 = 0 then vRun kinds routines r (i + 1) (vStep kinds routines x i w).1 else ((vStep kinds routines x i w).1, (vStep kinds routines x i w).2, i)
def vVer (code : List Ins) (kinds : List Int) (routines : Int) : Int × Int :=
  let r := vRun kinds routines code 0 ⟨[], []⟩
  if r.2.1 ≠ 0 then (r.2.2, r.2.1)
  else match r.1.opn.getLast? with
    | some o => (o.pos, 14)
    | none => if r.1.stk = [] then (0, 0) else (code.length, 13)
theorem vRun_app (kinds : List Int) (routines : Int) : ∀ (a b : List Ins) (i : Nat) (w : VW),
    vRun kinds routines (a ++ b) i w = if (vRun kinds routines a i w).2.1 = 0 then vRun kinds routines b (i + a.length) (vRun kinds routines a i w).1 else vRun kinds routines a i w
  | [], b, i, w => by simp [vRun]
  | x :: r, b, i, w => by
    rw [List.cons_append, vRun, vRun]
    by_cases h : (vStep kinds routines x i w).2 = 0
    · rw [if_pos h, if_pos h, vRun_app kinds routines r b (i + 1) _, List.length_cons, show i + 1 + r.length = i + (r.length + 1) by omega]
    · rw [if_neg h, if_neg h, if_neg h]
/-- What is on the stack never falls below the innermost structure, and is never more than eight. -/
def VW.good (w : VW) : Prop := w.floor ≤ w.stk.length ∧ w.stk.length ≤ 8 ∧ w.opn.length ≤ 4
/-- A piece of code that leaves p on the stack, needs n free places and d free levels, whatever lies below. -/
def Frag (kinds : List Int) (routines : Int) (zs : List Ins) (p : List UInt8) (n d : Nat) : Prop :=
  ∀ (i : Nat) (w : VW), w.good → w.stk.length + n ≤ 8 → w.opn.length + d ≤ 4 → vRun kinds routines zs i w = (⟨w.stk ++ p, w.opn⟩, 0, i + zs.length)
theorem Frag.more {kinds : List Int} {routines : Int} {zs : List Ins} {p : List UInt8} {n d n' d' : Nat} (h : Frag kinds routines zs p n d) (hn : n ≤ n') (hd : d ≤ d') : Frag kinds routines zs p n' d' :=
  fun i w g h1 h2 => h i w g (by omega) (by omega)
theorem Frag.nil (kinds : List Int) (routines : Int) : Frag kinds routines [] [] 0 0 := fun i w _ _ _ => by simp [vRun]
theorem good_push {w : VW} {p : List UInt8} (g : w.good) (h : w.stk.length + p.length ≤ 8) : VW.good ⟨w.stk ++ p, w.opn⟩ :=
  ⟨by have := g.1; show VW.floor ⟨w.stk ++ p, w.opn⟩ ≤ (w.stk ++ p).length; rw [List.length_append]; show w.floor ≤ _; omega, by simp; omega, g.2.2⟩
theorem Frag.app {kinds : List Int} {routines : Int} {a b : List Ins} {p q : List UInt8} {n m d e : Nat} (h : Frag kinds routines a p n d) (g : Frag kinds routines b q m e) :
    Frag kinds routines (a ++ b) (p ++ q) (max (max n p.length) (p.length + m)) (max d e) := fun i w gw h1 h2 => by
  rw [vRun_app, h i w gw (by omega) (by omega)]
  rw [if_pos rfl, g (i + a.length) _ (good_push gw (by omega)) (by rw [List.length_append]; omega) (by show w.opn.length + e ≤ 4; omega), List.length_append, List.append_assoc, Nat.add_assoc]
/-- An operation that takes t off the top and puts q. -/
theorem vStep_op {kinds : List Int} {routines : Int} {x : Ins} {i : Int} {w : VW} {t q : List UInt8} (hs : vSign kinds x = (t, q)) (hx : ¬ (21 ≤ x.1 ∧ x.1 ≤ 24)) (hk : ¬ ((x.1 = 19 ∨ x.1 = 20) ∧ (kinds.length : Int) ≤ x.2)) (hr : ¬ (x.1 = 26 ∧ routines ≤ x.2))
    {st : List UInt8} (hst : w.stk = st ++ t) (hf : w.floor ≤ st.length) (hq : st.length + q.length ≤ 8) : vStep kinds routines x i w = (⟨st ++ q, w.opn⟩, 0) := by
  have ht : vTake w.stk t w.floor = (st, 0) := by
    unfold vTake
    rw [hst, List.length_append, if_neg (by omega), Nat.add_sub_cancel, List.drop_left', if_pos rfl, List.take_left'] <;> rfl
  unfold vStep
  rw [if_neg hk, if_neg hr, hs]
  simp only [ht]
  rw [if_neg (by simp), if_neg (by omega), if_neg hx]
theorem Frag.op {kinds : List Int} {routines : Int} {x : Ins} {a : List Ins} {p t q : List UInt8} {n d : Nat} (h : Frag kinds routines a (p ++ t) n d) (hs : vSign kinds x = (t, q)) (hx : ¬ (21 ≤ x.1 ∧ x.1 ≤ 24)) (hk : ¬ ((x.1 = 19 ∨ x.1 = 20) ∧ (kinds.length : Int) ≤ x.2)) (hr : ¬ (x.1 = 26 ∧ routines ≤ x.2)) :
    Frag kinds routines (a ++ [x]) (p ++ q) (max n (p.length + q.length)) d := fun i w gw h1 h2 => by
  rw [vRun_app, h i w gw (by omega) h2, if_pos rfl]
  have hf : VW.floor ⟨w.stk ++ (p ++ t), w.opn⟩ ≤ (w.stk ++ p).length := by rw [List.length_append]; show w.floor ≤ _; have := gw.1; omega
  have := vStep_op (i := ((i + a.length : Nat) : Int)) (w := ⟨w.stk ++ (p ++ t), w.opn⟩) hs hx hk hr (st := w.stk ++ p) (by simp) hf (by rw [List.length_append]; omega)
  rw [vRun, this]
  simp [vRun, Nat.add_assoc]
/-- One instruction that takes nothing. -/
theorem Frag.one {kinds : List Int} {routines : Int} {x : Ins} {q : List UInt8} (hs : vSign kinds x = ([], q)) (hx : ¬ (21 ≤ x.1 ∧ x.1 ≤ 24)) (hk : ¬ ((x.1 = 19 ∨ x.1 = 20) ∧ (kinds.length : Int) ≤ x.2)) (hr : ¬ (x.1 = 26 ∧ routines ≤ x.2)) : Frag kinds routines [x] q q.length 0 := by
  have := Frag.op (p := []) (t := []) (Frag.nil kinds routines) hs hx hk hr
  simpa using this
theorem vNest_open {x : Ins} {i : Int} {w : VW} (hx : x.1 = 21 ∨ x.1 = 24) (h : w.opn.length + 1 ≤ 4) : vNest x i w = (⟨w.stk, w.opn ++ [⟨i, x.1, w.stk⟩]⟩, 0) := by
  unfold vNest
  rw [if_pos hx, if_neg (by omega)]
theorem vNest_else {a : Int} {i : Int} {st : List UInt8} {os : List VO} {k : Int} : vNest (22, a) i ⟨st, os ++ [⟨k, 21, st⟩]⟩ = (⟨st, os ++ [⟨k, 22, st⟩]⟩, 0) := by
  unfold vNest
  rw [if_neg (by simp)]
  simp
theorem vNest_end {a : Int} {i : Int} {st : List UInt8} {os : List VO} {k o : Int} : vNest (23, a) i ⟨st, os ++ [⟨k, o, st⟩]⟩ = (⟨st, os⟩, 0) := by
  unfold vNest
  rw [if_neg (by simp)]
  simp
theorem vSign_if (kinds : List Int) (a : Int) : vSign kinds (21, a) = ([98], []) := by simp [vSign]
theorem vSign_else (kinds : List Int) (a : Int) : vSign kinds (22, a) = ([], []) := by simp [vSign]
theorem vSign_end (kinds : List Int) (a : Int) : vSign kinds (23, a) = ([], []) := by simp [vSign]
theorem vSign_rep (kinds : List Int) (a : Int) : vSign kinds (24, a) = ([], []) := by simp [vSign]
/-- A structural instruction that takes t and puts nothing. -/
theorem vStep_nest {kinds : List Int} {routines : Int} {x : Ins} {i : Int} {w : VW} {t : List UInt8} (hs : vSign kinds x = (t, [])) (hx : 21 ≤ x.1 ∧ x.1 ≤ 24) {st : List UInt8} (hst : w.stk = st ++ t) (hf : w.floor ≤ st.length) (hq : st.length ≤ 8) :
    vStep kinds routines x i w = vNest x i ⟨st, w.opn⟩ := by
  have ht : vTake w.stk t w.floor = (st, 0) := by
    unfold vTake
    rw [hst, List.length_append, if_neg (by omega), Nat.add_sub_cancel, List.drop_left', if_pos rfl, List.take_left'] <;> rfl
  unfold vStep
  rw [if_neg (by omega), if_neg (by omega), hs]
  simp only [ht]
  rw [if_neg (by simp), if_neg (by simp; omega), if_pos hx, List.append_nil]
theorem floor_snoc (st : List UInt8) (os : List VO) (o : VO) : VW.floor ⟨st, os ++ [o]⟩ = o.stk.length := by simp [VW.floor]
theorem good_open {w : VW} {i o : Int} (g : w.good) (h : w.opn.length + 1 ≤ 4) : VW.good ⟨w.stk, w.opn ++ [⟨i, o, w.stk⟩]⟩ :=
  ⟨by rw [floor_snoc]; exact Nat.le_refl _, g.2.1, by simp; omega⟩
theorem vRun_one {kinds : List Int} {routines : Int} {x : Ins} {i : Nat} {w w' : VW} (h : vStep kinds routines x i w = (w', 0)) : vRun kinds routines [x] i w = (w', 0, i + 1) := by
  rw [vRun, h]
  simp [vRun]
/-- if, without else. -/
theorem Frag.branch {kinds : List Int} {routines : Int} {c b : List Ins} {n m d e : Nat} {a1 a2 : Int} (h : Frag kinds routines c [98] n d) (g : Frag kinds routines b [] m e) :
    Frag kinds routines (c ++ [(21, a1)] ++ b ++ [(23, a2)]) [] (max n m) (max d (e + 1)) := fun i w gw h1 h2 => by
  have hg := gw.1
  have hgl := gw.2.1
  have s1 : vStep kinds routines (21, a1) ((i + c.length : Nat) : Int) ⟨w.stk ++ [98], w.opn⟩ = (⟨w.stk, w.opn ++ [⟨((i + c.length : Nat) : Int), 21, w.stk⟩]⟩, 0) :=
    (vStep_nest (w := ⟨w.stk ++ [98], w.opn⟩) (vSign_if kinds a1) (by simp) (st := w.stk) rfl hg hgl).trans (vNest_open (.inl rfl) (by show w.opn.length + 1 ≤ 4; omega))
  have r1 : vRun kinds routines (c ++ [(21, a1)]) i w = (⟨w.stk, w.opn ++ [⟨((i + c.length : Nat) : Int), 21, w.stk⟩]⟩, 0, i + c.length + 1) := by
    rw [vRun_app, h i w gw (by omega) (by omega), if_pos rfl]
    exact vRun_one s1
  have g1 := good_open (i := ((i + c.length : Nat) : Int)) (o := 21) gw (by omega)
  have r2 : vRun kinds routines (c ++ [(21, a1)] ++ b) i w = (⟨w.stk, w.opn ++ [⟨((i + c.length : Nat) : Int), 21, w.stk⟩]⟩, 0, i + (c ++ [(21, a1)]).length + b.length) := by
    rw [vRun_app, r1, if_pos rfl, g _ _ g1 (by show w.stk.length + m ≤ 8; omega) (by simp; omega), List.append_nil]
  rw [vRun_app, r2, if_pos rfl]
  have s2 : vStep kinds routines (23, a2) ((i + (c ++ [(21, a1)] ++ b).length : Nat) : Int) ⟨w.stk, w.opn ++ [⟨((i + c.length : Nat) : Int), 21, w.stk⟩]⟩ = (⟨w.stk, w.opn⟩, 0) :=
    (vStep_nest (vSign_end kinds a2) (by simp) (st := w.stk) (by simp) (by rw [floor_snoc]; exact Nat.le_refl _) hgl).trans vNest_end
  rw [vRun_one s2]
  simp [Nat.add_assoc]
/-- if, with else. -/
theorem Frag.both {kinds : List Int} {routines : Int} {c b f : List Ins} {n m l d e u : Nat} {a1 a2 a3 : Int} (h : Frag kinds routines c [98] n d) (g : Frag kinds routines b [] m e) (k : Frag kinds routines f [] l u) :
    Frag kinds routines (c ++ [(21, a1)] ++ b ++ [(22, a2)] ++ f ++ [(23, a3)]) [] (max n (max m l)) (max d (max (e + 1) (u + 1))) := fun i w gw h1 h2 => by
  have hg := gw.1
  have hgl := gw.2.1
  have s1 : vStep kinds routines (21, a1) ((i + c.length : Nat) : Int) ⟨w.stk ++ [98], w.opn⟩ = (⟨w.stk, w.opn ++ [⟨((i + c.length : Nat) : Int), 21, w.stk⟩]⟩, 0) :=
    (vStep_nest (w := ⟨w.stk ++ [98], w.opn⟩) (vSign_if kinds a1) (by simp) (st := w.stk) rfl hg hgl).trans (vNest_open (.inl rfl) (by show w.opn.length + 1 ≤ 4; omega))
  have r1 : vRun kinds routines (c ++ [(21, a1)]) i w = (⟨w.stk, w.opn ++ [⟨((i + c.length : Nat) : Int), 21, w.stk⟩]⟩, 0, i + c.length + 1) := by
    rw [vRun_app, h i w gw (by omega) (by omega), if_pos rfl]
    exact vRun_one s1
  have g1 := good_open (i := ((i + c.length : Nat) : Int)) (o := 21) gw (by omega)
  have r2 : vRun kinds routines (c ++ [(21, a1)] ++ b) i w = (⟨w.stk, w.opn ++ [⟨((i + c.length : Nat) : Int), 21, w.stk⟩]⟩, 0, i + (c ++ [(21, a1)]).length + b.length) := by
    rw [vRun_app, r1, if_pos rfl, g _ _ g1 (by show w.stk.length + m ≤ 8; omega) (by simp; omega), List.append_nil]
  have s2 : vStep kinds routines (22, a2) ((i + (c ++ [(21, a1)] ++ b).length : Nat) : Int) ⟨w.stk, w.opn ++ [⟨((i + c.length : Nat) : Int), 21, w.stk⟩]⟩ = (⟨w.stk, w.opn ++ [⟨((i + c.length : Nat) : Int), 22, w.stk⟩]⟩, 0) :=
    (vStep_nest (vSign_else kinds a2) (by simp) (st := w.stk) (by simp) (by rw [floor_snoc]; exact Nat.le_refl _) hgl).trans vNest_else
  have r3 : vRun kinds routines (c ++ [(21, a1)] ++ b ++ [(22, a2)]) i w = (⟨w.stk, w.opn ++ [⟨((i + c.length : Nat) : Int), 22, w.stk⟩]⟩, 0, i + (c ++ [(21, a1)] ++ b).length + 1) := by
    rw [vRun_app, r2, if_pos rfl]
    exact vRun_one s2
  have g2 := good_open (i := ((i + c.length : Nat) : Int)) (o := 22) gw (by omega)
  have r4 : vRun kinds routines (c ++ [(21, a1)] ++ b ++ [(22, a2)] ++ f) i w = (⟨w.stk, w.opn ++ [⟨((i + c.length : Nat) : Int), 22, w.stk⟩]⟩, 0, i + (c ++ [(21, a1)] ++ b ++ [(22, a2)]).length + f.length) := by
    rw [vRun_app, r3, if_pos rfl, k _ _ g2 (by show w.stk.length + l ≤ 8; omega) (by simp; omega), List.append_nil]
  rw [vRun_app, r4, if_pos rfl]
  have s3 : vStep kinds routines (23, a3) ((i + (c ++ [(21, a1)] ++ b ++ [(22, a2)] ++ f).length : Nat) : Int) ⟨w.stk, w.opn ++ [⟨((i + c.length : Nat) : Int), 22, w.stk⟩]⟩ = (⟨w.stk, w.opn⟩, 0) :=
    (vStep_nest (vSign_end kinds a3) (by simp) (st := w.stk) (by simp) (by rw [floor_snoc]; exact Nat.le_refl _) hgl).trans vNest_end
  rw [vRun_one s3]
  simp [Nat.add_assoc]
/-- repeat. -/
theorem Frag.loop {kinds : List Int} {routines : Int} {b : List Ins} {m e : Nat} {a1 a2 : Int} (g : Frag kinds routines b [] m e) :
    Frag kinds routines ([(24, a1)] ++ b ++ [(23, a2)]) [] m (e + 1) := fun i w gw h1 h2 => by
  have hg := gw.1
  have hgl := gw.2.1
  have s1 : vStep kinds routines (24, a1) (i : Int) w = (⟨w.stk, w.opn ++ [⟨(i : Int), 24, w.stk⟩]⟩, 0) :=
    (vStep_nest (vSign_rep kinds a1) (by simp) (st := w.stk) (by simp) hg hgl).trans (vNest_open (.inr rfl) (by show w.opn.length + 1 ≤ 4; omega))
  have g1 := good_open (i := (i : Int)) (o := 24) gw (by omega)
  have r2 : vRun kinds routines ([(24, a1)] ++ b) i w = (⟨w.stk, w.opn ++ [⟨(i : Int), 24, w.stk⟩]⟩, 0, i + 1 + b.length) := by
    rw [vRun_app, vRun_one s1, if_pos rfl, List.length_singleton, g _ _ g1 (by show w.stk.length + m ≤ 8; omega) (by simp; omega), List.append_nil]
  rw [vRun_app, r2, if_pos rfl]
  have s2 : vStep kinds routines (23, a2) ((i + ([(24, a1)] ++ b).length : Nat) : Int) ⟨w.stk, w.opn ++ [⟨(i : Int), 24, w.stk⟩]⟩ = (⟨w.stk, w.opn⟩, 0) :=
    (vStep_nest (vSign_end kinds a2) (by simp) (st := w.stk) (by simp) (by rw [floor_snoc]; exact Nat.le_refl _) hgl).trans vNest_end
  rw [vRun_one s2]
  simp [Nat.add_assoc]
/-- A whole piece is accepted. -/
theorem Frag.accepted {kinds : List Int} {routines : Int} {zs : List Ins} {n d : Nat} (h : Frag kinds routines zs [] n d) (hn : n ≤ 8) (hd : d ≤ 4) : vVer zs kinds routines = (0, 0) := by
  have := h 0 ⟨[], []⟩ ⟨Nat.zero_le _, Nat.zero_le _, Nat.zero_le _⟩ (by simpa using hn) (by simpa using hd)
  unfold vVer
  rw [this]
  simp
/-- The stack ahead of the n-th instruction. -/
def vStack (code : List Ins) (kinds : List Int) (routines : Int) (n : Nat) : List UInt8 := (vRun kinds routines (code.take n) 0 ⟨[], []⟩).1.stk
theorem vRun_prefix {kinds : List Int} {routines : Int} {code : List Ins} {i : Nat} {w : VW} (h : (vRun kinds routines code i w).2.1 = 0) (n : Nat) : (vRun kinds routines (code.take n) i w).2.1 = 0 := by
  have e := vRun_app kinds routines (code.take n) (code.drop n) i w
  rw [List.take_append_drop] at e
  by_cases g : (vRun kinds routines (code.take n) i w).2.1 = 0
  · exact g
  · rw [if_neg g] at e
    rw [e] at h
    exact h
theorem vNest_stk (x : Ins) (i : Int) (w : VW) : (vNest x i w).1.stk = w.stk := by
  unfold vNest
  split
  · split <;> rfl
  · split
    · rfl
    · split
      · rfl
      · split
        · rfl
        · split <;> rfl
theorem vStep_len {kinds : List Int} {routines : Int} {x : Ins} {i : Int} {w : VW} (h : (vStep kinds routines x i w).2 = 0) : (vStep kinds routines x i w).1.stk.length ≤ 8 := by
  revert h
  unfold vStep
  split
  · intro h; exact absurd h (by simp)
  · split
    · intro h; exact absurd h (by simp)
    · dsimp only
      split
      · rename_i _ _ h1
        intro h
        exact absurd h h1
      · split
        · intro h; exact absurd h (by simp)
        · rename_i h2
          split
          · intro _
            rw [vNest_stk]
            simp only [List.length_append]
            omega
          · intro _
            simp only [List.length_append]
            omega
theorem vRun_len {kinds : List Int} {routines : Int} : ∀ (code : List Ins) (i : Nat) (w : VW), w.stk.length ≤ 8 → (vRun kinds routines code i w).2.1 = 0 → (vRun kinds routines code i w).1.stk.length ≤ 8
  | [], _, _, hw, _ => hw
  | x :: r, i, w, hw, h => by
    rw [vRun] at h ⊢
    by_cases g : (vStep kinds routines x i w).2 = 0
    · rw [if_pos g] at h ⊢
      exact vRun_len r (i + 1) _ (vStep_len g) h
    · rw [if_neg g] at h
      exact absurd h g
theorem vVer_ok {code : List Ins} {kinds : List Int} {routines : Int} (h : (vVer code kinds routines).2 = 0) :
    (vRun kinds routines code 0 ⟨[], []⟩).2.1 = 0 ∧ (vRun kinds routines code 0 ⟨[], []⟩).1.stk = [] := by
  unfold vVer at h
  dsimp only at h
  split at h
  · rename_i g; exact absurd h g
  · rename_i g
    refine ⟨Classical.not_not.1 g, ?_⟩
    split at h
    · exact absurd h (by simp)
    · split at h
      · assumption
      · exact absurd h (by simp)
theorem vStack_le {code : List Ins} {kinds : List Int} {routines : Int} (h : (vVer code kinds routines).2 = 0) (n : Nat) : (vStack code kinds routines n).length ≤ 8 :=
  vRun_len _ _ _ (Nat.zero_le _) (vRun_prefix (vVer_ok h).1 n)
theorem vStack_zero (code : List Ins) (kinds : List Int) (routines : Int) : vStack code kinds routines 0 = [] := rfl
theorem vStack_end {code : List Ins} {kinds : List Int} {routines : Int} (h : (vVer code kinds routines).2 = 0) : vStack code kinds routines code.length = [] := by
  unfold vStack
  rw [List.take_length]
  exact (vVer_ok h).2
/-- Valid kinds. -/
def vKinds (kinds : List Int) : Bool := decide (kinds.length ≤ 8) && kinds.all (fun k => decide (1 ≤ k ∧ k ≤ 4))
/-- The else that lies directly in the structure, and its end: what lies behind is looked through at its depth. -/
def vMatchGo : List Ins → Int → Nat → Int → Option (Int × Int)
  | [], _, _, _ => none
  | x :: r, i, depth, other =>
    if x.1 = 21 ∨ x.1 = 24 then vMatchGo r (i + 1) (depth + 1) other
    else if x.1 = 22 then vMatchGo r (i + 1) depth (if depth = 0 then i else other)
    else if x.1 = 23 then (match depth with | 0 => some (other, i) | d + 1 => vMatchGo r (i + 1) d other)
    else vMatchGo r (i + 1) depth other
def vMatch (code : List Ins) (pos : Nat) : Option (Int × Int) := vMatchGo (code.drop (pos + 1)) (pos + 1) 0 0
/-- Which routines are called. -/
def vCalls (code : List Ins) : List Int := ((List.range 6).filter (fun n : Nat => code.any (fun x => decide (x.1 = 26 ∧ x.2 = (n : Int))))).map (fun n : Nat => (n : Int))
end Go.Proofs.YtppgknjpbfopjaaGreatDoor
