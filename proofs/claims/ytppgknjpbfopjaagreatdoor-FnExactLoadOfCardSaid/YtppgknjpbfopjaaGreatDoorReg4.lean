/- Costs reckoned in one pass over code, what is open kept in a list: the same as the bound of the tree. -/
import Derived.Test.YtppgknjpbfopjaaGreatDoorCostT
import Derived.Test.YtppgknjpbfopjaaGreatDoorCst3
import Derived.Test.YtppgknjpbfopjaaGreatDoorRow
import Derived.Test.YtppgknjpbfopjaaGreatDoorIns
import Derived.Deep.RegionHeld3
import Derived.Deep.RegionWith
import Derived.Deep.DeepCutAuto
import Derived.Test.YtppgknjpbfopjaaGreatDoorWalk12
import Derived.IntWalk
namespace Go.Proofs.YtppgknjpbfopjaaGreatDoor
/-- What is open: its opener, what was read of the branch at hand, what the other branch came to. -/
structure RG where
  x : Ins
  own : SM
  oth : SM
def RG.add (r : RG) (a : SM) : RG := ⟨r.x, beh r.own a, r.oth⟩
def RG.whole (r : RG) : SM := if r.x.1 = 24 then tims r.own r.x.2.toNat else eith r.oth r.own
def rgNew (x : Ins) : RG := ⟨x, one 0 false, one 0 false⟩
/-- What the instruction itself takes. -/
def RG.tk (r : RG) (x : Ins) : RG := r.add (one (tick x.1) (decide (x.1 = 25)))
def rgStep (known : List SM) (b : List RG) (top : RG) (x : Ins) : List RG :=
  if x.1 = 21 ∨ x.1 = 24 then b ++ [top.tk x] ++ [rgNew x]
  else if x.1 = 22 then b ++ [⟨top.x, one 0 false, (top.tk x).own⟩]
  else if x.1 = 23 then (match b.getLast? with | none => b | some p => b.dropLast ++ [p.add (top.tk x).whole])
  else if x.1 = 26 then b ++ [(top.tk x).add (known.getD x.2.toNat (one 0 false))]
  else b ++ [top.tk x]
def rgRead (known : List SM) (os : List RG) (x : Ins) : List RG := match os.getLast? with | none => os | some top => rgStep known os.dropLast top x
def rgRun (known : List SM) (os : List RG) (xs : List Ins) : List RG := xs.foldl (rgRead known) os
theorem rgRead_snoc (known : List SM) (b : List RG) (top : RG) (x : Ins) : rgRead known (b ++ [top]) x = rgStep known b top x := by simp [rgRead]
theorem rgRun_app (known : List SM) (os : List RG) (a b : List Ins) : rgRun known os (a ++ b) = rgRun known (rgRun known os a) b := by simp [rgRun]
theorem rgRun_one (known : List SM) (os : List RG) (x : Ins) : rgRun known os [x] = rgRead known os x := rfl
theorem rgRun_cons (known : List SM) (os : List RG) (x : Ins) (b : List Ins) : rgRun known os (x :: b) = rgRun known (rgRead known os x) b := rfl
theorem one_add {t : RG} {a b : SM} (h : t.own.ok) (ha : a.ok) (hb : b.ok) : (t.add a).add b = t.add (beh a b) := by
  unfold RG.add
  dsimp only
  rw [beh_assoc h ha hb]
theorem rg_end (known : List SM) (b : List RG) (p top : RG) : rgRead known (b ++ [p] ++ [top]) (23, 0) = b ++ [p.add (top.tk (23, 0)).whole] := by
  rw [rgRead_snoc]
  unfold rgStep
  rw [if_neg (by simp), if_neg (by simp), if_pos rfl]
  simp
mutual
theorem rg_st {known : List SM} (hk : ∀ a ∈ known, a.ok) : ∀ (s : St) (b : List RG) (top : RG), s.pl → top.own.ok → rgRun known (b ++ [top]) s.fl = b ++ [top.add (s.cost known)]
  | .op x, b, top, hp, ho => by
    rw [St.pl] at hp
    have ht := tick_rng x.1
    rw [St.fl, rgRun_one, rgRead_snoc, St.cost]
    unfold rgStep
    rw [if_neg (by omega), if_neg (by omega), if_neg (by omega)]
    by_cases h : x.1 = 26
    · rw [if_pos h, if_pos h]
      have e : decide (x.1 = 25) = false := decide_eq_false (by omega)
      unfold RG.tk
      rw [e, one_add ho (one_ok (by omega) _) (known_ok hk _)]
    · rw [if_neg h, if_neg h]
      rfl
  | .br b', b, top, hp, ho => by
    rw [St.pl] at hp
    have h0 := one_ok (n := 0) (by omega) false
    have h1 := one_ok (n := 1) (by omega) false
    have hb := costL_ok hk b' _ h0
    rw [St.fl, rgRun_cons, rgRead_snoc, show rgStep known b top (21, 0) = (b ++ [top.tk (21, 0)]) ++ [rgNew (21, 0)] from rfl, rgRun_app, rg_L hk b' _ _ hp h0, rgRun_one, rg_end]
    rw [St.cost, show (top.tk (21, 0)) = top.add (one 1 false) from rfl]
    rw [one_add ho h1]
    · show _ = b ++ [top.add (beh (one 1 false) (eith (beh (costL known b' (one 0 false)) (one 1 false)) (one 0 false)))]
      rw [eith_comm]
      rfl
    · exact eith_ok h0 (beh_ok hb h1)
  | .be b' f, b, top, hp, ho => by
    rw [St.pl] at hp
    have h0 := one_ok (n := 0) (by omega) false
    have h1 := one_ok (n := 1) (by omega) false
    have hb := costL_ok hk b' _ h0
    have hf := costL_ok hk f _ h0
    rw [St.fl, rgRun_cons, rgRead_snoc, show rgStep known b top (21, 0) = (b ++ [top.tk (21, 0)]) ++ [rgNew (21, 0)] from rfl, rgRun_app, rg_L hk b' _ _ hp.1 h0, rgRun_cons, rgRead_snoc]
    rw [show rgStep known (b ++ [top.tk (21, 0)]) ⟨(rgNew (21, 0)).x, costL known b' (rgNew (21, 0)).own, (rgNew (21, 0)).oth⟩ (22, 0) = (b ++ [top.tk (21, 0)]) ++ [⟨(21, 0), one 0 false, beh (costL known b' (one 0 false)) (one 1 false)⟩] from rfl]
    rw [rgRun_app, rg_L hk f _ _ hp.2 h0, rgRun_one, rg_end]
    rw [St.cost, show (top.tk (21, 0)) = top.add (one 1 false) from rfl]
    rw [one_add ho h1]
    · rfl
    · exact eith_ok (beh_ok hb h1) (beh_ok hf h1)
  | .lp n b', b, top, hp, ho => by
    rw [St.pl] at hp
    have h0 := one_ok (n := 0) (by omega) false
    have h1 := one_ok (n := 1) (by omega) false
    have hb := costL_ok hk b' _ h0
    rw [St.fl, rgRun_cons, rgRead_snoc, show rgStep known b top (24, n) = (b ++ [top.tk (24, n)]) ++ [rgNew (24, n)] from rfl, rgRun_app, rg_L hk b' _ _ hp h0, rgRun_one, rg_end]
    rw [St.cost, show (top.tk (24, n)) = top.add (one 1 false) from rfl]
    rw [one_add ho h1]
    · rfl
    · exact tims_ok (beh_ok hb h1) _
theorem rg_L {known : List SM} (hk : ∀ a ∈ known, a.ok) : ∀ (ts : List St) (b : List RG) (top : RG), plL ts → top.own.ok → rgRun known (b ++ [top]) (flL ts) = b ++ [⟨top.x, costL known ts top.own, top.oth⟩]
  | [], b, top, _, _ => by rw [flL, costL]; rfl
  | s :: r, b, top, hp, ho => by
    rw [plL] at hp
    rw [flL, rgRun_app, rg_st hk s b top hp.1 ho, rg_L hk r b _ hp.2 (beh_ok ho (cost_ok hk s)), costL]
    rfl
end
/-- What code comes to behind known routines. -/
def codeCost (known : List SM) (zs : List Ins) : SM := ((rgRun known [rgNew (0, 0)] zs).getD 0 (rgNew (0, 0))).own
theorem codeCost_tree {known : List SM} (hk : ∀ a ∈ known, a.ok) {ts : List St} (hp : plL ts) : codeCost known (flL ts) = costL known ts (one 0 false) := by
  unfold codeCost
  have := rg_L hk ts [] (rgNew (0, 0)) hp (one_ok (by omega) _)
  rw [List.nil_append, List.nil_append] at this
  rw [this]
  rfl
def costsGo : List (List Ins) → List SM → List SM
  | [], known => known
  | zs :: r, known => costsGo r (known ++ [codeCost known zs])
/-- The bounds of routines, each behind those ahead of it. -/
def costsL (ls : List (List Ins)) : List SM := costsGo ls []
def RG.good (r : RG) : Prop := r.own.ok ∧ r.oth.ok ∧ (r.x.1 = 24 → 1 ≤ r.x.2 ∧ r.x.2 ≤ 20)
theorem RG.good.add {r : RG} (h : r.good) {a : SM} (ha : a.ok) : (r.add a).good := ⟨beh_ok h.1 ha, h.2.1, h.2.2⟩
theorem RG.good.tk {r : RG} (h : r.good) (x : Ins) : (r.tk x).good := h.add (one_ok (by have := tick_rng x.1; omega) _)
theorem RG.good.whole {r : RG} (h : r.good) : r.whole.ok := by
  unfold RG.whole
  split
  · exact tims_ok h.1 _
  · exact eith_ok h.2.1 h.1
theorem rgNew_good {x : Ins} (h : x.1 = 24 → 1 ≤ x.2 ∧ x.2 ≤ 20) : (rgNew x).good := ⟨one_ok (by omega) _, one_ok (by omega) _, h⟩
theorem rgStep_good {known : List SM} (hk : ∀ a ∈ known, a.ok) {b : List RG} {top : RG} (hb : ∀ r ∈ b, r.good) (ht : top.good) {x : Ins} (hx : x.1 = 24 → 1 ≤ x.2 ∧ x.2 ≤ 20) : ∀ r ∈ rgStep known b top x, r.good := by
  unfold rgStep
  intro r hr
  split at hr
  · rcases List.mem_append.1 hr with hr | hr
    · rcases List.mem_append.1 hr with hr | hr
      · exact hb r hr
      · rw [List.mem_singleton.1 hr]; exact ht.tk x
    · rw [List.mem_singleton.1 hr]; exact rgNew_good hx
  split at hr
  · rcases List.mem_append.1 hr with hr | hr
    · exact hb r hr
    · rw [List.mem_singleton.1 hr]; exact ⟨one_ok (by omega) _, (ht.tk x).1, ht.2.2⟩
  split at hr
  · split at hr
    · exact hb r hr
    · rename_i p hp
      rcases List.mem_append.1 hr with hr | hr
      · exact hb r ((List.dropLast_sublist b).subset hr)
      · rw [List.mem_singleton.1 hr]; exact (hb p (List.mem_of_getLast? hp)).add (ht.tk x).whole
  split at hr
  · rcases List.mem_append.1 hr with hr | hr
    · exact hb r hr
    · rw [List.mem_singleton.1 hr]; exact (ht.tk x).add (known_ok hk _)
  · rcases List.mem_append.1 hr with hr | hr
    · exact hb r hr
    · rw [List.mem_singleton.1 hr]; exact ht.tk x
theorem vNest_len {x : Ins} {i : Int} {w : VW} (_hx : 21 ≤ x.1 ∧ x.1 ≤ 24) (h : (vNest x i w).2 = 0) :
    (vNest x i w).1.opn.length = (if x.1 = 21 ∨ x.1 = 24 then w.opn.length + 1 else if x.1 = 22 then w.opn.length else w.opn.length - 1) ∧ (x.1 = 22 ∨ x.1 = 23 → 1 ≤ w.opn.length) := by
  revert h
  unfold vNest
  split
  · rename_i hop
    split
    · intro g; exact absurd g (by simp)
    · intro _
      exact ⟨by simp, fun h => by omega⟩
  · rename_i hop
    split
    · intro g; exact absurd g (by simp)
    · rename_i o ho
      have hl : 1 ≤ w.opn.length := by
        rcases hw : w.opn with _ | ⟨a, l⟩
        · rw [hw] at ho; simp at ho
        · simp
      split
      · intro g; exact absurd g (by simp)
      split
      · intro g; exact absurd g (by simp)
      split
      · intro _
        refine ⟨?_, fun _ => hl⟩
        simp
        omega
      · intro _
        refine ⟨by simp, fun _ => hl⟩
/-- As many are open as the verifier has open, and the routine around them. -/
theorem rg_len {known : List SM} {ks : List Int} {r : Int} {x : Ins} {i : Int} {w : VW} {b : List RG} {top : RG} (hb : b.length = w.opn.length) (h : (vStep ks r x i w).2 = 0) :
    (rgStep known b top x).length = (vStep ks r x i w).1.opn.length + 1 ∧ (x.1 = 23 → 1 ≤ b.length) ∧ (x.1 = 26 → x.2 < r) := by
  revert h
  unfold vStep
  split
  · intro g; exact absurd g (by simp)
  split
  · intro g; exact absurd g (by simp)
  rename_i h26
  dsimp only
  split
  · rename_i g1; intro g; exact absurd g g1
  split
  · intro g; exact absurd g (by simp)
  have h26' : x.1 = 26 → x.2 < r := fun e => by
    rcases Int.lt_or_le x.2 r with g | g
    · exact g
    · exact absurd ⟨e, g⟩ h26
  split
  · rename_i hn
    intro g
    obtain ⟨h1, h2⟩ := vNest_len hn g
    rw [h1]
    refine ⟨?_, fun e => by have := h2 (.inr e); dsimp only at this; omega, h26'⟩
    dsimp only
    unfold rgStep
    by_cases e1 : x.1 = 21 ∨ x.1 = 24
    · rw [if_pos e1, if_pos e1]; simp; omega
    rw [if_neg e1, if_neg e1]
    by_cases e2 : x.1 = 22
    · rw [if_pos e2, if_pos e2]; simp; omega
    rw [if_neg e2, if_neg e2, if_pos (by omega)]
    have := h2 (.inr (by omega))
    dsimp only at this
    rcases snoc_cases b with rfl | ⟨b', p, rfl⟩
    · simp at hb; omega
    · simp at hb ⊢; omega
  · rename_i hn
    intro _
    refine ⟨?_, fun e => absurd e (by omega), h26'⟩
    unfold rgStep
    rw [if_neg (by omega), if_neg (by omega), if_neg (by omega)]
    split <;> simp <;> omega
end Go.Proofs.YtppgknjpbfopjaaGreatDoor
namespace Go.Proofs.YtppgknjpbfopjaaGreatDoor
open Go.ChangeShapes Go.WideShapes Go.ChangeAt Go.RowKit
set_option linter.unusedVariables false
/-- A region's cells. -/
def rgC (r : RG) : List Value := [.int .i64 r.x.1, .int .i64 r.x.2, .int .i64 r.own.t, .int .i64 r.own.n, .int .i64 r.own.h, .int .i64 r.own.l, .int .i64 r.own.i, .int .i64 r.oth.t, .int .i64 r.oth.n, .int .i64 r.oth.h, .int .i64 r.oth.l, .int .i64 r.oth.i]
theorem rgC_len (r : RG) : (rgC r).length = 12 := rfl
abbrev rgV (r : RG) : Value := .agg #[.int .i64 r.x.1, .int .i64 r.x.2, .int .i64 r.own.t, .int .i64 r.own.n, .int .i64 r.own.h, .int .i64 r.own.l, .int .i64 r.own.i, .int .i64 r.oth.t, .int .i64 r.oth.n, .int .i64 r.oth.h, .int .i64 r.oth.l, .int .i64 r.oth.i]
abbrev rgO (r : RG) : Obj := .cells #[.int .i64 r.x.1, .int .i64 r.x.2, .int .i64 r.own.t, .int .i64 r.own.n, .int .i64 r.own.h, .int .i64 r.own.l, .int .i64 r.own.i, .int .i64 r.oth.t, .int .i64 r.oth.n, .int .i64 r.oth.h, .int .i64 r.oth.l, .int .i64 r.oth.i] 217
abbrev inO (x y : Int) : Obj := .cells #[.int .i64 x, .int .i64 y] 170
theorem rg_cells {w : World} {b : Nat} {x0 x1 x2 x3 x4 x5 x6 x7 x8 x9 x10 x11 : Value} {t : TypeId} (h : w.heap[b]? = some (.cells #[x0, x1, x2, x3, x4, x5, x6, x7, x8, x9, x10, x11] t (0, 0))) :
    (w.cell? ⟨b, 0, none⟩ = some x0 ∧ w.cell? ⟨b, 1, none⟩ = some x1 ∧ w.cell? ⟨b, 2, none⟩ = some x2 ∧ w.cell? ⟨b, 3, none⟩ = some x3 ∧ w.cell? ⟨b, 4, none⟩ = some x4 ∧ w.cell? ⟨b, 5, none⟩ = some x5 ∧ w.cell? ⟨b, 6, none⟩ = some x6 ∧ w.cell? ⟨b, 7, none⟩ = some x7 ∧ w.cell? ⟨b, 8, none⟩ = some x8 ∧ w.cell? ⟨b, 9, none⟩ = some x9 ∧ w.cell? ⟨b, 10, none⟩ = some x10 ∧ w.cell? ⟨b, 11, none⟩ = some x11) ∧
    (w.frozen? ⟨b, 0, none⟩ = false ∧ w.frozen? ⟨b, 1, none⟩ = false ∧ w.frozen? ⟨b, 2, none⟩ = false ∧ w.frozen? ⟨b, 3, none⟩ = false ∧ w.frozen? ⟨b, 4, none⟩ = false ∧ w.frozen? ⟨b, 5, none⟩ = false ∧ w.frozen? ⟨b, 6, none⟩ = false ∧ w.frozen? ⟨b, 7, none⟩ = false ∧ w.frozen? ⟨b, 8, none⟩ = false ∧ w.frozen? ⟨b, 9, none⟩ = false ∧ w.frozen? ⟨b, 10, none⟩ = false ∧ w.frozen? ⟨b, 11, none⟩ = false) ∧ b < w.heap.size :=
  ⟨⟨cell_of_row _ _ 0 _ _ _ h, cell_of_row _ _ 1 _ _ _ h, cell_of_row _ _ 2 _ _ _ h, cell_of_row _ _ 3 _ _ _ h, cell_of_row _ _ 4 _ _ _ h, cell_of_row _ _ 5 _ _ _ h, cell_of_row _ _ 6 _ _ _ h, cell_of_row _ _ 7 _ _ _ h, cell_of_row _ _ 8 _ _ _ h, cell_of_row _ _ 9 _ _ _ h, cell_of_row _ _ 10 _ _ _ h, cell_of_row _ _ 11 _ _ _ h⟩,
    ⟨frozen_of_row _ _ 0 _ _ h, frozen_of_row _ _ 1 _ _ h, frozen_of_row _ _ 2 _ _ h, frozen_of_row _ _ 3 _ _ h, frozen_of_row _ _ 4 _ _ h, frozen_of_row _ _ 5 _ _ h, frozen_of_row _ _ 6 _ _ h, frozen_of_row _ _ 7 _ _ h, frozen_of_row _ _ 8 _ _ h, frozen_of_row _ _ 9 _ _ h, frozen_of_row _ _ 10 _ _ h, frozen_of_row _ _ 11 _ _ h⟩, (Array.getElem?_eq_some_iff.1 h).1⟩
theorem blk_belR {w1 w2 : World} {k : Nat} {Q : Obj} (h : w1.heap[k]? = some Q) (g : Below w1.heap.size w1 w2) : w2.heap[k]? = some Q := (g.block _ (Array.getElem?_eq_some_iff.1 h).1).trans h
theorem bel_tr {B : Nat} {W w w' : World} (h : Below B W w) (hB : B ≤ w.heap.size) (hb : Below w.heap.size w w') : Below B W w' := h.trans (hb.mono hB)
/-- A region stored into a block. -/
abbrev set12 (w : World) (b : Nat) (r : RG) : World := ((((((((((((w.setCell ⟨b, 0, none⟩ (.int .i64 r.x.1)).setCell ⟨b, 1, none⟩ (.int .i64 r.x.2)).setCell ⟨b, 2, none⟩ (.int .i64 r.own.t)).setCell ⟨b, 3, none⟩ (.int .i64 r.own.n)).setCell ⟨b, 4, none⟩ (.int .i64 r.own.h)).setCell ⟨b, 5, none⟩ (.int .i64 r.own.l)).setCell ⟨b, 6, none⟩ (.int .i64 r.own.i)).setCell ⟨b, 7, none⟩ (.int .i64 r.oth.t)).setCell ⟨b, 8, none⟩ (.int .i64 r.oth.n)).setCell ⟨b, 9, none⟩ (.int .i64 r.oth.h)).setCell ⟨b, 10, none⟩ (.int .i64 r.oth.l)).setCell ⟨b, 11, none⟩ (.int .i64 r.oth.i))
theorem rg_put1 {w : World} {p : Nat} {cs : Array Value} {t : TypeId} (h : w.heap[p]? = some (.cells cs t (0, 0))) (i : Nat) (u : Value) : (w.setCell ⟨p, i, none⟩ u).heap[p]? = some (.cells (cs.setIfInBounds i u) t (0, 0)) := by
  simp [World.setCell, Array.getElem?_modify, h]
set_option maxRecDepth 100000 in
theorem rg_put {w : World} {b : Nat} {r0 : RG} (h : w.heap[b]? = some (rgO r0)) (r : RG) : (set12 w b r).heap[b]? = some (rgO r) := by
  have := rg_put1 (rg_put1 (rg_put1 (rg_put1 (rg_put1 (rg_put1 (rg_put1 (rg_put1 (rg_put1 (rg_put1 (rg_put1 (rg_put1 h 0 (.int .i64 r.x.1)) 1 (.int .i64 r.x.2)) 2 (.int .i64 r.own.t)) 3 (.int .i64 r.own.n)) 4 (.int .i64 r.own.h)) 5 (.int .i64 r.own.l)) 6 (.int .i64 r.own.i)) 7 (.int .i64 r.oth.t)) 8 (.int .i64 r.oth.n)) 9 (.int .i64 r.oth.h)) 10 (.int .i64 r.oth.l)) 11 (.int .i64 r.oth.i)
  simpa using this
theorem rg_set {B : Nat} {a w : World} (h : Below B a w) (b : Nat) (hb : B ≤ b) (r : RG) : Below B a (set12 w b r) :=
  (((((((((((h.setCell (p := ⟨b, 0, none⟩) hb _).setCell (p := ⟨b, 1, none⟩) hb _).setCell (p := ⟨b, 2, none⟩) hb _).setCell (p := ⟨b, 3, none⟩) hb _).setCell (p := ⟨b, 4, none⟩) hb _).setCell (p := ⟨b, 5, none⟩) hb _).setCell (p := ⟨b, 6, none⟩) hb _).setCell (p := ⟨b, 7, none⟩) hb _).setCell (p := ⟨b, 8, none⟩) hb _).setCell (p := ⟨b, 9, none⟩) hb _).setCell (p := ⟨b, 10, none⟩) hb _).setCell (p := ⟨b, 11, none⟩) hb _
/-- The instruction and the region that newRegion makes of it, as they lie. -/
structure NR (w : World) (x y : Int) (X : World) : Prop where
  i : X.heap[w.heap.size]? = some (inO x y)
  r : X.heap[w.heap.size + 1]? = some (rgO ⟨(0, 0), ⟨0, 0, 0, 0, 0⟩, ⟨0, 0, 0, 0, 0⟩⟩)
  b : Below w.heap.size w X
theorem nr_mk {w : World} {x y : Int} {X : World} (h1 : X.heap[w.heap.size]? = some (inO x y)) (h2 : X.heap[w.heap.size + 1]? = some (rgO ⟨(0, 0), ⟨0, 0, 0, 0, 0⟩, ⟨0, 0, 0, 0, 0⟩⟩)) (h3 : Below w.heap.size w X) : NR w x y X.drew := ⟨h1, h2, sm_dr h3⟩
theorem nr_next {w : World} {x y : Int} {X wn : World} (h : NR w x y X) (hb : Below X.heap.size X wn) : NR w x y wn := ⟨blk_belR h.i hb, blk_belR h.r hb, bel_tr h.b h.b.size hb⟩
theorem nr_in {w : World} {x y : Int} {X : World} (h : NR w x y X) : (X.cell? ⟨w.heap.size, 0, none⟩ = some (.int .i64 x) ∧ X.cell? ⟨w.heap.size, 1, none⟩ = some (.int .i64 y)) ∧
    (w.heap.size + 1 < X.heap.size) ∧ (X.cell? ⟨w.heap.size + 1, 0, none⟩ = some (.int .i64 0) ∧ X.cell? ⟨w.heap.size + 1, 1, none⟩ = some (.int .i64 0) ∧ X.cell? ⟨w.heap.size + 1, 2, none⟩ = some (.int .i64 0) ∧ X.cell? ⟨w.heap.size + 1, 3, none⟩ = some (.int .i64 0) ∧ X.cell? ⟨w.heap.size + 1, 4, none⟩ = some (.int .i64 0) ∧ X.cell? ⟨w.heap.size + 1, 5, none⟩ = some (.int .i64 0) ∧ X.cell? ⟨w.heap.size + 1, 6, none⟩ = some (.int .i64 0) ∧ X.cell? ⟨w.heap.size + 1, 7, none⟩ = some (.int .i64 0) ∧ X.cell? ⟨w.heap.size + 1, 8, none⟩ = some (.int .i64 0) ∧ X.cell? ⟨w.heap.size + 1, 9, none⟩ = some (.int .i64 0) ∧ X.cell? ⟨w.heap.size + 1, 10, none⟩ = some (.int .i64 0) ∧ X.cell? ⟨w.heap.size + 1, 11, none⟩ = some (.int .i64 0)) ∧ ∀ k, X.frozen? ⟨w.heap.size + 1, k, none⟩ = false := by
  obtain ⟨c, f, hz⟩ := rg_cells h.r
  exact ⟨⟨cell_of_row _ _ 0 _ _ _ h.i, cell_of_row _ _ 1 _ _ _ h.i⟩, hz, c, fun k => frozen_of_row _ _ k _ _ h.r⟩
set_option maxRecDepth 100000 in
set_option maxHeartbeats 2000000 in
theorem newRegion_any (x y : Int) (w : World) : Calls Tryz.prog 188 #[.agg #[.int .i64 x, .int .i64 y]] w fun e w' => e = .returned (rgV (rgNew (x, y))) ∧ Below w.heap.size w w' := by
  have HB := Lib.hid (sm_al2 w (inO x y) (rgO ⟨(0, 0), ⟨0, 0, 0, 0, 0⟩, ⟨0, 0, 0, 0, 0⟩⟩))
  have hR0 := heap_alloc_new (w.alloc (inO x y)) (rgO ⟨(0, 0), ⟨0, 0, 0, 0, 0⟩, ⟨0, 0, 0, 0, 0⟩⟩)
  have hI0 := bl_al (heap_alloc_new w (inO x y)) (rgO ⟨(0, 0), ⟨0, 0, 0, 0, 0⟩, ⟨0, 0, 0, 0, 0⟩⟩)
  have HH := Lib.hid (And.intro hI0 hR0)
  clear hR0 hI0
  go_enter Tryz.func188, Tryz.ntmps188
  go_wp2
  generalize (w.alloc (inO x y)).alloc (rgO ⟨(0, 0), ⟨0, 0, 0, 0, 0⟩, ⟨0, 0, 0, 0, 0⟩⟩) = W at *
  have kd : NR w x y W.drew := nr_mk HH.out.1 (by have := HH.out.2; simpa using this) HB.out
  have kk := nr_in kd
  clear HH
  go_split_ands
  go_region_with (go_at_call 210; (with_reducible refine (nothing_any _).mono ?_); rintro e wn ⟨rfl, hbn⟩; have kd := nr_next kd hbn; have kk := nr_in kd; go_split_ands)
  all_goals
    have HW := Lib.hid (And.intro (rg_put kd.r (rgNew (x, y))) (rg_set kd.b (w.heap.size + 1) (by omega) (rgNew (x, y))))
    go_wp2
    exact bodyPost_ret (v := rgV (rgNew (x, y))) (by simp [results, Tryz.results188, go_sem, nr_in kd, rgNew]) rfl ⟨rfl, HW.out.2⟩
end Go.Proofs.YtppgknjpbfopjaaGreatDoor
namespace Go.Proofs.YtppgknjpbfopjaaGreatDoor
open Go.ChangeShapes Go.WideShapes Go.ChangeAt Go.RowKit
set_option linter.unusedVariables false
/-- A region as it lies at an address. -/
def RgAt (w : World) (g o : Nat) (r : RG) : Prop := (w.cell? ⟨g, o, none⟩ = some (.int .i64 r.x.1) ∧ w.cell? ⟨g, o + 1, none⟩ = some (.int .i64 r.x.2)) ∧
    (w.cell? ⟨g, o + 2, none⟩ = some (.int .i64 r.own.t) ∧ w.cell? ⟨g, o + 3, none⟩ = some (.int .i64 r.own.n) ∧ w.cell? ⟨g, o + 4, none⟩ = some (.int .i64 r.own.h) ∧ w.cell? ⟨g, o + 5, none⟩ = some (.int .i64 r.own.l) ∧ w.cell? ⟨g, o + 6, none⟩ = some (.int .i64 r.own.i)) ∧
    (w.cell? ⟨g, o + 7, none⟩ = some (.int .i64 r.oth.t) ∧ w.cell? ⟨g, o + 8, none⟩ = some (.int .i64 r.oth.n) ∧ w.cell? ⟨g, o + 9, none⟩ = some (.int .i64 r.oth.h) ∧ w.cell? ⟨g, o + 10, none⟩ = some (.int .i64 r.oth.l) ∧ w.cell? ⟨g, o + 11, none⟩ = some (.int .i64 r.oth.i)) ∧ ∀ k, w.frozen? ⟨g, k, none⟩ = false
theorem RgAt.lt {w : World} {g o : Nat} {r : RG} (h : RgAt w g o r) : g < w.heap.size := cells_lt h.1.1
theorem RgAt.bel {w w' : World} {g o : Nat} {r : RG} (h : RgAt w g o r) (hb : Below w.heap.size w w') : RgAt w' g o r := by
  have hl := h.lt
  have c : ∀ k, w'.cell? ⟨g, k, none⟩ = w.cell? ⟨g, k, none⟩ := fun k => hb.cell (p := ⟨g, k, none⟩) hl
  have f : ∀ k, w'.frozen? ⟨g, k, none⟩ = w.frozen? ⟨g, k, none⟩ := fun k => hb.frozen (p := ⟨g, k, none⟩) hl
  unfold RgAt
  simp only [c, f]
  exact h
/-- A summary stored at an address. -/
abbrev set5o (w : World) (g o : Nat) (x : SM) : World := ((((w.setCell ⟨g, o, none⟩ (.int .i64 x.t)).setCell ⟨g, o + 1, none⟩ (.int .i64 x.n)).setCell ⟨g, o + 2, none⟩ (.int .i64 x.h)).setCell ⟨g, o + 3, none⟩ (.int .i64 x.l)).setCell ⟨g, o + 4, none⟩ (.int .i64 x.i)
def AddPost (g o : Nat) (S : SM) (w : World) (e : Ending) (w' : World) : Prop := e = .returned (.tuple #[]) ∧ ∃ w1, Below w.heap.size w w1 ∧ w' = set5o w1 g (o + 2) S
set_option maxRecDepth 100000 in
set_option maxHeartbeats 1000000 in
theorem add_any (g o : Nat) (r : RG) (a : SM) (hr : r.own.ok) (ha : a.ok) (w : World) (h : RgAt w g o r) :
    Calls Tryz.prog 211 #[.pointer (some ⟨g, o, none⟩), smV a] w (AddPost g o (beh r.own a) w) := by
  have hl := h.lt
  have HC := Lib.hid (fun w => behind_any r.own a hr ha w)
  have HR := Lib.hid (h.bel (sm_al w (smO a)))
  have HB : Hid (∀ w1, Below (w.alloc (smO a)).drew.heap.size (w.alloc (smO a)).drew w1 → Below w.heap.size w w1) := Lib.hid (fun w1 hb => bel_tr (sm_dr (sm_al w (smO a))) (sm_al w (smO a)).size hb)
  obtain ⟨⟨c0, c1⟩, ⟨c2, c3, c4, c5, c6⟩, ⟨c7, c8, c9, c10, c11⟩, hf⟩ := h
  clear hr ha
  go_enter Tryz.func211, Tryz.ntmps211
  go_wp2
  go_region_with (go_at_call 154; (with_reducible refine (HC.out _).mono ?_); rintro e wn ⟨rfl, hbn⟩; have kr := RgAt.bel (w := (w.alloc (smO a)).drew) HR.out hbn; have k2 := kr; unfold RgAt at k2; go_split_ands)
  all_goals
    have HW := Lib.hid (HB.out _ hbn)
    go_wp2
    go_end0
    exact ⟨rfl, _, HW.out, rfl⟩
set_option maxRecDepth 100000 in
set_option maxHeartbeats 1000000 in
theorem whole_any (g o : Nat) (r : RG) (hr : r.good) (w : World) (h : RgAt w g o r) :
    Calls Tryz.prog 213 #[.pointer (some ⟨g, o, none⟩)] w fun e w' => e = .returned (smV r.whole) ∧ Below w.heap.size w w' := by
  have hl := h.lt
  have HB : Hid (∀ w1, Below (w.alloc (smO ⟨0, 0, 0, 0, 0⟩)).drew.heap.size (w.alloc (smO ⟨0, 0, 0, 0, 0⟩)).drew w1 → Below w.heap.size w w1 ∧ w1.heap[w.heap.size]? = some (smO ⟨0, 0, 0, 0, 0⟩)) := Lib.hid (fun w1 hb => ⟨bel_tr (sm_dr (sm_al w (smO ⟨0, 0, 0, 0, 0⟩))) (sm_al w (smO ⟨0, 0, 0, 0, 0⟩)).size hb, blk_belR (w1 := (w.alloc (smO ⟨0, 0, 0, 0, 0⟩)).drew) (heap_alloc_new w (smO ⟨0, 0, 0, 0, 0⟩)) hb⟩)
  obtain ⟨⟨c0, c1⟩, ⟨c2, c3, c4, c5, c6⟩, ⟨c7, c8, c9, c10, c11⟩, hf⟩ := h
  by_cases h24 : r.x.1 = 24
  · have h20 := hr.2.2 h24
    obtain ⟨n, hn⟩ := Int.eq_ofNat_of_zero_le (show 0 ≤ r.x.2 by omega)
    have HC := Lib.hid (fun w => times_any r.own n hr.1 (by omega) w)
    have HE : Hid (r.whole = tims r.own n) := Lib.hid (by unfold RG.whole; rw [if_pos h24, hn]; rfl)
    rw [h24] at c0
    rw [hn] at c1
    clear hr h20 h24 hn
    go_enter Tryz.func213, Tryz.ntmps213
    go_wp2
    go_region_with (go_at_call 232; (with_reducible refine (HC.out _).mono ?_); rintro e wn ⟨rfl, hbn⟩; have kr := HB.out _ hbn; have k2 := sm_cells kr.2; go_split_ands)
    all_goals
      have HW := Lib.hid (HB.out _ hbn)
      obtain ⟨⟨d0, d1, d2, d3, d4⟩, -, -⟩ := sm_cells HW.out.2
      go_wp2
      exact bodyPost_ret (v := smV (tims r.own n)) (by simp [results, Tryz.results213, go_sem, d0, d1, d2, d3, d4]) rfl ⟨by rw [HE.out], sm_set5 HW.out.1 w.heap.size (Nat.le_refl _) (tims r.own n)⟩
  · have HC := Lib.hid (fun w => either_any r.oth r.own w)
    have HE : Hid (r.whole = eith r.oth r.own) := Lib.hid (by unfold RG.whole; rw [if_neg h24])
    have e24 : (r.x.1 == 24) = false := beq_eq_false_iff_ne.2 h24
    clear hr h24
    go_enter Tryz.func213, Tryz.ntmps213
    go_wp2
    go_region_with (go_at_call 233; (with_reducible refine (HC.out _).mono ?_); rintro e wn ⟨rfl, hbn⟩; have kr := HB.out _ hbn; have k2 := sm_cells kr.2; go_split_ands)
    all_goals
      have HW := Lib.hid (HB.out _ hbn)
      obtain ⟨⟨d0, d1, d2, d3, d4⟩, -, -⟩ := sm_cells HW.out.2
      go_wp2
      exact bodyPost_ret (v := smV (eith r.oth r.own)) (by simp [results, Tryz.results213, go_sem, d0, d1, d2, d3, d4]) rfl ⟨by rw [HE.out], sm_set5 HW.out.1 w.heap.size (Nat.le_refl _) (eith r.oth r.own)⟩
end Go.Proofs.YtppgknjpbfopjaaGreatDoor
namespace Go.Proofs.YtppgknjpbfopjaaGreatDoor
open Go.ChangeShapes Go.WideShapes Go.ChangeAt Go.RowKit
set_option linter.unusedVariables false
def smC (a : SM) : List Value := [.int .i64 a.t, .int .i64 a.n, .int .i64 a.h, .int .i64 a.l, .int .i64 a.i]
theorem smC_len (a : SM) : (smC a).length = 5 := rfl
/-- A row of regions. -/
abbrev RRow (B g n c : Nat) (os : List RG) (w : World) : Prop := w.ownsRow B 217 12 (.slice (some ⟨g, 0, none⟩) n c) n (flat rgC os)
theorem rr_len {w : World} {B g n c : Nat} {os : List RG} (h : RRow B g n c os w) : os.length = n := by
  have := h.1
  rw [flat_len rgC_len] at this
  omega
theorem rr_at {w : World} {B g n c : Nat} {b t : List RG} {r : RG} (h : RRow B g n c (b ++ r :: t) w) : RgAt w g (b.length * 12) r := by
  have hl := rr_len h
  simp at hl
  have hat : ∀ j, j < 12 → w.cell? ⟨g, b.length * 12 + j, none⟩ = (rgC r)[j]? := fun j hj => by
    rw [h.cellAt _ (by omega)]
    exact flat_at rgC_len (show (b ++ r :: t)[b.length]? = some r by simp) hj
  exact ⟨⟨hat 0 (by omega), hat 1 (by omega)⟩, ⟨hat 2 (by omega), hat 3 (by omega), hat 4 (by omega), hat 5 (by omega), hat 6 (by omega)⟩, ⟨hat 7 (by omega), hat 8 (by omega), hat 9 (by omega), hat 10 (by omega), hat 11 (by omega)⟩, fun k => h.frozenAt k⟩
theorem rr_own {w w1 : World} {B g n c : Nat} {b t : List RG} {r : RG} (h : RRow B g n c (b ++ r :: t) w) (hb : Below w.heap.size w w1) (S : SM) :
    RRow B g n c (b ++ (⟨r.x, S, r.oth⟩ : RG) :: t) (set5o w1 g (b.length * 12 + 2) S) ∧ w1.grownBy (set5o w1 g (b.length * 12 + 2) S) (some g) := by
  obtain ⟨h1, h2⟩ := own_storeAll (smC S) _ (b.length * 12 + 2) w1 (own_bl h hb)
  refine ⟨?_, h2⟩
  have e := over_mid (smC S) (flat rgC b ++ [.int .i64 r.x.1, .int .i64 r.x.2]) (smC r.own) (smC r.oth ++ flat rgC t) rfl
  rw [show (flat rgC b ++ [Value.int .i64 r.x.1, .int .i64 r.x.2]).length = b.length * 12 + 2 by rw [List.length_append, flat_len rgC_len]; rfl] at e
  have e1 : flat rgC (b ++ r :: t) = flat rgC b ++ [Value.int .i64 r.x.1, .int .i64 r.x.2] ++ smC r.own ++ (smC r.oth ++ flat rgC t) := by
    rw [flat_app, flat_cons]; simp [rgC, smC]
  have e2 : flat rgC (b ++ (⟨r.x, S, r.oth⟩ : RG) :: t) = flat rgC b ++ [Value.int .i64 r.x.1, .int .i64 r.x.2] ++ smC S ++ (smC r.oth ++ flat rgC t) := by
    rw [flat_app, flat_cons]; simp [rgC, smC]
  rw [e1, e, ← e2] at h1
  exact h1
theorem rr_oth {w w1 : World} {B g n c : Nat} {b t : List RG} {r : RG} (h : RRow B g n c (b ++ r :: t) w) (hb : Below w.heap.size w w1) (S : SM) :
    RRow B g n c (b ++ (⟨r.x, r.own, S⟩ : RG) :: t) (set5o w1 g (b.length * 12 + 7) S) ∧ w1.grownBy (set5o w1 g (b.length * 12 + 7) S) (some g) := by
  obtain ⟨h1, h2⟩ := own_storeAll (smC S) _ (b.length * 12 + 7) w1 (own_bl h hb)
  refine ⟨?_, h2⟩
  have e := over_mid (smC S) (flat rgC b ++ ([.int .i64 r.x.1, .int .i64 r.x.2] ++ smC r.own)) (smC r.oth) (flat rgC t) rfl
  rw [show (flat rgC b ++ ([Value.int .i64 r.x.1, .int .i64 r.x.2] ++ smC r.own)).length = b.length * 12 + 7 by rw [List.length_append, flat_len rgC_len]; rfl] at e
  have e1 : flat rgC (b ++ r :: t) = flat rgC b ++ ([Value.int .i64 r.x.1, .int .i64 r.x.2] ++ smC r.own) ++ smC r.oth ++ flat rgC t := by
    rw [flat_app, flat_cons]; simp [rgC, smC]
  have e2 : flat rgC (b ++ (⟨r.x, r.own, S⟩ : RG) :: t) = flat rgC b ++ ([Value.int .i64 r.x.1, .int .i64 r.x.2] ++ smC r.own) ++ smC S ++ flat rgC t := by
    rw [flat_app, flat_cons]; simp [rgC, smC]
  rw [e1, e, ← e2] at h1
  exact h1
theorem rr_lt {w : World} {B g n c : Nat} {os : List RG} (h : RRow B g n c os w) : B ≤ g ∧ g < w.heap.size := h.lt g rfl
/-- A region of a row takes one more summary. -/
theorem rr_add {w w' : World} {B g n c : Nat} {b t : List RG} {r : RG} {S : SM} {e : Ending} (h : RRow B g n c (b ++ r :: t) w) (hB : B ≤ w.heap.size) (hp : AddPost g (b.length * 12) S w e w') :
    e = .returned (.tuple #[]) ∧ RRow B g n c (b ++ (⟨r.x, S, r.oth⟩ : RG) :: t) w' ∧ Below B w w' := by
  obtain ⟨he, w1, hb, rfl⟩ := hp
  obtain ⟨h1, h2⟩ := rr_own h hb S
  exact ⟨he, h1, (hb.mono hB).grown h2 (Nat.le_trans hB hb.size) (fun k hk => by cases hk; exact (rr_lt h).1)⟩
theorem rr_addm {w w' : World} {B g n c m : Nat} {b : List RG} {r : RG} {S : SM} {e : Ending} (h : RRow B g n c (b ++ [r]) w) (hm : b.length = m) (hB : B ≤ w.heap.size) (hp : AddPost g (m * 12) S w e w') :
    e = .returned (.tuple #[]) ∧ RRow B g n c (b ++ [(⟨r.x, S, r.oth⟩ : RG)]) w' ∧ Below B w w' := by
  subst hm
  exact rr_add h hB hp
theorem rr_atm {w : World} {B g n c m : Nat} {b : List RG} {r : RG} (h : RRow B g n c (b ++ [r]) w) (hm : b.length = m) : RgAt w g (m * 12) r := by
  subst hm
  exact rr_at h
theorem bl_set5o {w : World} {c : Nat} {O : Obj} (h : w.heap[c]? = some O) (b o : Nat) (hc : c ≠ b) (x : SM) : (set5o w b o x).heap[c]? = some O := by
  unfold set5o
  rw [heap_setCell_other _ _ _ _ hc, heap_setCell_other _ _ _ _ hc, heap_setCell_other _ _ _ _ hc, heap_setCell_other _ _ _ _ hc, heap_setCell_other _ _ _ _ hc]
  exact h
theorem add_oth {w w' : World} {g o k : Nat} {S : SM} {e : Ending} {O : Obj} (hp : AddPost g o S w e w') (h : w.heap[k]? = some O) (hk : k ≠ g) : w'.heap[k]? = some O := by
  obtain ⟨_, w1, hb, rfl⟩ := hp
  exact bl_set5o (blk_belR h hb) g _ hk S
theorem rr_addp {w w' : World} {B g n c m : Nat} {b : List RG} {r top : RG} {S : SM} {e : Ending} (h : RRow B g n c (b ++ [r] ++ [top]) w) (hm : b.length = m) (hB : B ≤ w.heap.size) (hp : AddPost g (m * 12) S w e w') :
    e = .returned (.tuple #[]) ∧ RRow B g n c (b ++ [(⟨r.x, S, r.oth⟩ : RG)] ++ [top]) w' ∧ Below B w w' := by
  subst hm
  rw [List.append_assoc, List.singleton_append] at h ⊢
  exact rr_add h hB hp
theorem rr_atp {w : World} {B g n c m : Nat} {b : List RG} {r top : RG} (h : RRow B g n c (b ++ [r] ++ [top]) w) (hm : b.length = m) : RgAt w g (m * 12) r := by
  subst hm
  rw [List.append_assoc, List.singleton_append] at h
  exact rr_at h
theorem rr_else {w w1 : World} {B g n c m : Nat} {b : List RG} {r : RG} (h : RRow B g n c (b ++ [r]) w) (hm : b.length = m) (hB : B ≤ w.heap.size) (hb : Below w.heap.size w w1) (S T : SM) :
    RRow B g n c (b ++ [(⟨r.x, S, T⟩ : RG)]) (set5o (set5o w1 g (m * 12 + 2) S) g (m * 12 + 7) T) ∧ Below B w (set5o (set5o w1 g (m * 12 + 2) S) g (m * 12 + 7) T) := by
  subst hm
  obtain ⟨h1, g1⟩ := rr_own h hb S
  obtain ⟨h2, g2⟩ := rr_oth h1 (Below.refl _ _) T
  have hg := (rr_lt h).1
  have k1 := (hb.mono hB).grown g1 (Nat.le_trans hB hb.size) (fun k hk => by cases hk; exact hg)
  exact ⟨h2, k1.grown g2 (Nat.le_trans (Nat.le_trans hB hb.size) g1.size) (fun k hk => by cases hk; exact hg)⟩
/-- The last region goes. -/
theorem rr_less {w : World} {B g m c : Nat} {b : List RG} {r : RG} (h : RRow B g (m + 1) c (b ++ [r]) w) (hm : b.length = m) : RRow B g m c b w := by
  unfold RRow at h
  rw [flat_snoc] at h
  exact own_less h (by rw [flat_len rgC_len, hm])
/-- The known summaries, below the regions. -/
def Kn (B : Nat) (ka : Option Addr) (known : List SM) (w : World) : Prop := known = [] ∨ ∃ b o : Nat, ka = some ⟨b, o, none⟩ ∧ b < B ∧ ∀ (j : Nat) v, (flat smC known)[j]? = some v → w.cell? ⟨b, o + j, none⟩ = some v
theorem Kn.bel {B : Nat} {ka : Option Addr} {known : List SM} {w w' : World} (h : Kn B ka known w) (hb : Below B w w') : Kn B ka known w' := by
  rcases h with h | ⟨b, o, e, hl, h⟩
  · exact .inl h
  · exact .inr ⟨b, o, e, hl, fun j v hj => (hb.cell (p := ⟨b, o + j, none⟩) hl).trans (h j v hj)⟩
theorem Kn.at {B : Nat} {ka : Option Addr} {known : List SM} {w : World} (h : Kn B ka known w) {k : Nat} (hk : k < known.length) : ∃ b o : Nat, ka = some ⟨b, o, none⟩ ∧ b < B ∧
    (w.cell? ⟨b, o + k * 5, none⟩ = some (.int .i64 (known.getD k (one 0 false)).t) ∧ w.cell? ⟨b, o + k * 5 + 1, none⟩ = some (.int .i64 (known.getD k (one 0 false)).n) ∧ w.cell? ⟨b, o + k * 5 + 2, none⟩ = some (.int .i64 (known.getD k (one 0 false)).h) ∧ w.cell? ⟨b, o + k * 5 + 3, none⟩ = some (.int .i64 (known.getD k (one 0 false)).l) ∧ w.cell? ⟨b, o + k * 5 + 4, none⟩ = some (.int .i64 (known.getD k (one 0 false)).i)) := by
  rcases h with h | ⟨b, o, e, hl, h⟩
  · rw [h] at hk; simp at hk
  · have hx : known[k]? = some (known.getD k (one 0 false)) := by simp [List.getD, hk]
    have hat : ∀ j, j < 5 → ∀ v, (smC (known.getD k (one 0 false)))[j]? = some v → w.cell? ⟨b, o + k * 5 + j, none⟩ = some v := fun j hj v hv => by
      have := h (k * 5 + j) v ((flat_at smC_len hx hj).trans hv)
      rwa [show o + (k * 5 + j) = o + k * 5 + j by omega] at this
    exact ⟨b, o, e, hl, hat 0 (by omega) _ rfl, hat 1 (by omega) _ rfl, hat 2 (by omega) _ rfl, hat 3 (by omega) _ rfl, hat 4 (by omega) _ rfl⟩
theorem optab_bel {B : Nat} {w w' : World} (h : OpTab w) (g : Below B w w') (hB : 2 < B) : OpTab w' := fun k hk => by
  obtain ⟨h1, h2, h3, h4⟩ := h k hk
  exact ⟨(g.cell (p := ⟨2, k * 4, none⟩) hB).trans h1, (g.cell (p := ⟨2, k * 4 + 1, none⟩) hB).trans h2, (g.cell (p := ⟨2, k * 4 + 2, none⟩) hB).trans h3, (g.cell (p := ⟨2, k * 4 + 3, none⟩) hB).trans h4⟩
theorem tick_op {k : Nat} (h1 : 1 ≤ k) (h2 : k ≤ 26) : opTk k = tick (k : Int) := op_cases (p := fun k => 1 ≤ k → opTk k = tick (k : Int)) (by decide) (by omega) h1
end Go.Proofs.YtppgknjpbfopjaaGreatDoor
namespace Go.Proofs.YtppgknjpbfopjaaGreatDoor
open Go.ChangeShapes Go.WideShapes Go.ChangeAt Go.RowKit
set_option linter.unusedVariables false
theorem own_some {w : World} {B n size : Nat} {e : TypeId} {v : Value} {xs : List Value} (h : w.ownsRow B e size v n xs) (hn : 0 < n) : ∃ g c, v = .slice (some ⟨g, 0, none⟩) n c := by
  rcases h.2 with ⟨_, h0⟩ | ⟨g, cap, cur, e, _⟩
  · omega
  · exact ⟨g, cap, e⟩
theorem rg_new_cells (w : World) (r : RG) : ∀ j u, (rgC r)[j]? = some u → (w.alloc (rgO r)).cell? ((⟨w.heap.size, 0, none⟩ : Addr).add j) = some u := fun j u hj =>
  (World.ownsRow_lit (base := w.heap.size) (e := 217) (size := 12) w (rgC r).toArray 1 (Nat.le_refl _) (by unfold maxLen; omega) rfl).cells (g := w.heap.size) rfl j u (by simpa using hj)
theorem rgC_one (r : RG) : ∀ u ∈ rgC r, u.oneCell' = true := by
  intro u hu
  simp only [rgC, List.mem_cons, List.not_mem_nil, or_false] at hu
  rcases hu with rfl | rfl | rfl | rfl | rfl | rfl | rfl | rfl | rfl | rfl | rfl | rfl <;> rfl
theorem ticks_any (k : Nat) (y : Int) (h1 : 1 ≤ k) (h2 : k ≤ 26) (w : World) (ht : OpTab w) : Calls Tryz.prog 212 #[.agg #[.int .i64 (k : Int), .int .i64 y]] w fun e w' => e = .returned (.int .i64 (tick (k : Int))) ∧ Below w.heap.size w w' := by
  have HB := Lib.hid (sm_al w (inO k y))
  have ht2 := ht.below HB.out (Nat.le_refl _)
  have hc1 := (ht2 k (by omega)).2.1
  rw [tick_op h1 h2] at hc1
  have hk1 : (k : Int) < 27 := by omega
  clear ht ht2
  go_enter Tryz.func212, Tryz.ntmps212
  go_wp2
  go_ret
  exact ⟨rfl, HB.out⟩
def ReadPost (B : Nat) (known : List SM) (b : List RG) (top : RG) (x : Ins) (w : World) (e : Ending) (w' : World) : Prop :=
  Below B w w' ∧ ∃ g n c, e = .returned (.slice (some ⟨g, 0, none⟩) n c) ∧ RRow B g n c (rgStep known b top x) w'
set_option maxRecDepth 100000 in
set_option maxHeartbeats 2000000 in
theorem read_any (B : Nat) (ka : Option Addr) (kn kc : Nat) (known : List SM) (g m c : Nat) (b : List RG) (top : RG) (k : Nat) (y : Int) (w : World) (hB : B ≤ w.heap.size) (hG : 2 < B) (ht : OpTab w) (hk : Kn B ka known w) (hkl : known.length = kn) (hko : ∀ a ∈ known, a.ok)
    (hrow : RRow B g (m + 1) c (b ++ [top]) w) (hgood : ∀ r ∈ b ++ [top], r.good) (h1 : 1 ≤ k) (h2 : k ≤ 26) (h24 : k = 24 → 1 ≤ y ∧ y ≤ 20) (h23 : k = 23 → b ≠ []) (h26 : k = 26 → 0 ≤ y ∧ y < kn) (hm : m ≤ 4) :
    Calls Tryz.prog 189 #[.slice ka kn kc, .slice (some ⟨g, 0, none⟩) (m + 1) c, .agg #[.int .i64 (k : Int), .int .i64 y]] w (ReadPost B known b top ((k : Int), y) w) := by
  have hb := rr_len hrow
  simp at hb
  have hcap : m + 1 ≤ c := by
    rcases hrow.2 with ⟨h0, _⟩ | ⟨g', cap, cur, e, _, _, hc, _⟩
    · simp at h0
    · simp only [Value.slice.injEq] at e
      omega
  have hat := rr_at hrow
  rw [hb] at hat
  have hg : top.good := hgood top (by simp)
  have htk := tick_rng (k : Int)
  have ho : (one (tick (k : Int)) ((k : Int) == 25)).ok := one_ok (by omega) _
  have HADD := Lib.hid (fun w h => add_any g (m * 12) top (one (tick (k : Int)) ((k : Int) == 25)) hg.1 ho w h)
  have hc1 := (ht k (by omega)).2.1
  rw [tick_op h1 h2] at hc1
  have h27 : k < 27 := by omega
  have HROW := Lib.hid hrow
  have hgw : g < w.heap.size := (rr_lt hrow).2
  have HAT := Lib.hid hat
  have HK := Lib.hid hk
  have HGOOD := Lib.hid hgood
  have HT := Lib.hid ht
  have HKO := Lib.hid hko
  clear hrow hat hk hgood ht htk ho hko
  go_enter Tryz.func189, Tryz.ntmps189
  go_upto_region 2 with (fail)
  have HW0 : Hid (RRow B g (m + 1) c (b ++ [top]) (w.alloc (inO k y)) ∧ Below B w (w.alloc (inO k y)) ∧ (w.alloc (inO k y)).heap[w.heap.size]? = some (inO k y)) := Lib.hid ⟨own_bl HROW.out (sm_al w _), (sm_al w _).mono hB, heap_alloc_new w _⟩
  have HN : Hid (∀ wn, Below (w.alloc (inO k y)).drew.heap.size (w.alloc (inO k y)).drew wn → RRow B g (m + 1) c (b ++ [top]) wn ∧ Below B w wn ∧ wn.heap[w.heap.size]? = some (inO k y) ∧ B ≤ wn.heap.size) :=
    Lib.hid (fun wn hbn => ⟨own_bl (w := (w.alloc (inO k y)).drew) HW0.out.1 hbn, bel_tr (sm_dr HW0.out.2.1) (Nat.le_trans hB (sm_al w _).size) hbn, blk_belR (w1 := (w.alloc (inO k y)).drew) HW0.out.2.2 hbn, Nat.le_trans (Nat.le_trans hB (sm_al w (inO k y)).size) hbn.size⟩)
  have HM := Lib.hid hb
  clear hb
  go_cut [] (fun wx => Hid (RRow B g (m + 1) c (b ++ [top.tk ((k : Int), y)]) wx ∧ Below B w wx ∧ wx.heap[w.heap.size]? = some (inO k y)))
  case first =>
    have hG0 : 2 < w.heap.size := by omega
    have hk0 : (0 : Int) ≤ (k : Int) := by omega
    have hk1 : (k : Int) < 27 := by omega
    have HTK := Lib.hid (ticks_any k y h1 h2 _ ((HT.out.below (sm_al w (inO k y)) (Nat.le_refl _)).below (sm_dr (Below.refl (w.alloc (inO k y)).heap.size (w.alloc (inO k y)))) (Nat.le_refl _)))
    have z0 : (w.alloc (inO k y)).cell? ⟨w.heap.size, 0, none⟩ = some (.int .i64 (k : Int)) := cell_of_row _ _ 0 _ _ _ HW0.out.2.2
    have z1 : (w.alloc (inO k y)).cell? ⟨w.heap.size, 1, none⟩ = some (.int .i64 y) := cell_of_row _ _ 1 _ _ _ HW0.out.2.2
    go_region_with (first
      | (go_at_call 212; (with_reducible refine HTK.out.mono ?_); rintro e wt ⟨rfl, hbt⟩; have q0 := cell_of_row wt w.heap.size 0 _ _ _ (blk_belR (w1 := (w.alloc (inO k y)).drew) HW0.out.2.2 hbt))
      | (go_at_call 153; (with_reducible refine (oneCost_any _ _ _).mono ?_); rintro e wn ⟨rfl, hbo⟩; have hbn := hbt.trans (hbo.mono hbt.size); clear hbo)
      | (go_at_call 211; (with_reducible refine (HADD.out _ (rr_atm (HN.out _ hbn).1 HM.out)).mono ?_); intro e wz hpz; have hz := rr_addm (HN.out _ hbn).1 HM.out (HN.out _ hbn).2.2.2 hpz; have hz3 := add_oth hpz (HN.out _ hbn).2.2.1 (by omega); obtain ⟨rfl, hz1, hz2⟩ := hz))
    all_goals
      have HZ := Lib.hid (And.intro hz1 (And.intro ((HN.out _ hbn).2.1.trans hz2) hz3))
      go_wp2_with fail
      go_meet
      exact Lib.hid HZ.out
  case rest =>
    have HW := hcut
    have b0 : wc.cell? ⟨w.heap.size, 0, none⟩ = some (.int .i64 (k : Int)) := cell_of_row _ _ 0 _ _ _ HW.out.2.2
    have b1 : wc.cell? ⟨w.heap.size, 1, none⟩ = some (.int .i64 y) := cell_of_row _ _ 1 _ _ _ HW.out.2.2
    have hzw : w.heap.size < wc.heap.size := (Array.getElem?_eq_some_iff.1 HW.out.2.2).1
    clear hcut HADD HN HW0 hc1
    by_cases e21 : k = 21 ∨ k = 24
    · have HS : Hid (rgStep known b top ((k : Int), y) = b ++ [top.tk ((k : Int), y)] ++ [rgNew ((k : Int), y)]) := Lib.hid (if_pos (by show (k : Int) = 21 ∨ (k : Int) = 24; omega))
      obtain ⟨i0, hi, hz0, hz1, hz2⟩ := info_parts (show (Tryz.prog.info? 217).map (fun i => (i.zero, i.size, i.bytes)) = some (some (.agg #[.int .i64 0, .int .i64 0, .int .i64 0, .int .i64 0, .int .i64 0, .int .i64 0, .int .i64 0, .int .i64 0, .int .i64 0, .int .i64 0, .int .i64 0, .int .i64 0]), 12, 96) by kernel_rfl)
      have HI := Lib.hid (And.intro hi (And.intro hz0 (And.intro hz1 hz2)))
      clear hi hz0 hz1 hz2 h24 h23 h26
      rcases e21 with rfl | rfl
      all_goals
        go_wp2_with fail
        refine Calls.mono (newRegion_any _ _ _) ?_
        rintro e w1 ⟨rfl, hb1⟩
        have HW1 := Lib.hid (And.intro (own_bl HW.out.1 hb1) (bel_tr HW.out.2.1 (by omega) hb1))
        have hz1 : B ≤ w1.heap.size := by have := hb1.size; omega
        clear hb1 b0 b1 hzw
        go_wp2_with (at_builtin; (refine wpList_append_own _ rfl _ _ 214 rfl B 217 i0 _ 12 96 Tryz.underlying214 HI.out.1 HI.out.2.1 HI.out.2.2.1 HI.out.2.2.2 rfl (by decide) (.slice (some ⟨g, 0, none⟩) (m + 1) c) (m + 1) _ rfl (HW1.out.1.alloc _) ⟨w1.heap.size, 0, none⟩ 1 1 (rgC (rgNew _)) rfl rfl (rg_new_cells w1 (rgNew _)) (rgC_one _) (by unfold maxLen; omega) (by omega) (by simp; omega) ?_); intro v' w2 hown hgrow _)
        obtain ⟨g', c', rfl⟩ := own_some hown (by omega)
        go_ret
        exact ⟨(HW1.out.2.alloc hz1 _).grown hgrow (by simp; omega) (fun k hk => (HW1.out.1.lt k hk).1), g', m + 1 + 1, c', rfl, by rw [HS.out]; unfold RRow; rw [flat_snoc]; exact hown⟩
    by_cases e22 : k = 22
    · subst e22
      have HS : Hid (rgStep known b top (((22 : Nat) : Int), y) = b ++ [⟨top.x, one 0 false, (top.tk (((22 : Nat) : Int), y)).own⟩]) := Lib.hid rfl
      have HN : Hid (∀ wn, Below wc.drew.heap.size wc.drew wn → RgAt wn g (m * 12) (top.tk (((22 : Nat) : Int), y))) := Lib.hid (fun wn hbn => rr_atm (own_bl (w := wc.drew) HW.out.1 hbn) HM.out)
      have hA := rr_atm HW.out.1 HM.out
      unfold RgAt at hA
      clear h24 h23 h26 e21
      go_wp2
      go_split_ands
      go_region_with (go_at_call 210; (with_reducible refine (nothing_any _).mono ?_); rintro e wn ⟨rfl, hbn⟩; have k2 := HN.out _ hbn; unfold RgAt at k2; go_split_ands)
      all_goals
        have HZ := Lib.hid (rr_else (w := wc.drew) HW.out.1 HM.out (show B ≤ wc.heap.size by omega) hbn (one 0 false) (top.tk (((22 : Nat) : Int), y)).own)
        go_wp2
        go_ret
        exact ⟨(sm_dr HW.out.2.1).trans HZ.out.2, g, m + 1, c, rfl, by rw [HS.out]; exact HZ.out.1⟩
    by_cases e23 : k = 23
    · subst e23
      rcases snoc_cases b with hb0 | ⟨b', p, hbp⟩
      · exact absurd hb0 (h23 rfl)
      subst hbp
      obtain ⟨m', rfl⟩ : ∃ m', m = m' + 1 := ⟨b'.length, by have := HM.out; simp at this; omega⟩
      have HM' : Hid (b'.length = m') := Lib.hid (by have := HM.out; simp at this; omega)
      have HS : Hid (rgStep known (b' ++ [p]) top (((23 : Nat) : Int), y) = b' ++ [p.add (top.tk (((23 : Nat) : Int), y)).whole]) := Lib.hid (by
        unfold rgStep
        rw [if_neg (by simp), if_neg (by simp), if_pos (by simp)]
        simp)
      have hgt : (top.tk (((23 : Nat) : Int), y)).good := (HGOOD.out top (by simp)).tk _
      have hgp : p.good := HGOOD.out p (by simp)
      have HWH := Lib.hid (fun w h => whole_any g ((m' + 1) * 12) (top.tk (((23 : Nat) : Int), y)) hgt w h)
      have HAD := Lib.hid (fun w h => add_any g (m' * 12) p (top.tk (((23 : Nat) : Int), y)).whole hgp.1 hgt.whole w h)
      have HN : Hid (∀ wn, Below wc.drew.heap.size wc.drew wn → RRow B g (m' + 1 + 1) c (b' ++ [p] ++ [top.tk (((23 : Nat) : Int), y)]) wn ∧ Below B w wn ∧ B ≤ wn.heap.size) :=
        Lib.hid (fun wn hbn => ⟨own_bl (w := wc.drew) HW.out.1 hbn, bel_tr (sm_dr HW.out.2.1) (by show B ≤ wc.heap.size; omega) hbn, by have := hbn.size; have : wc.heap.size ≤ wn.heap.size := this; omega⟩)
      have HA0 : Hid (RgAt wc.drew g ((m' + 1) * 12) (top.tk (((23 : Nat) : Int), y))) := Lib.hid (rr_atm HW.out.1 HM.out)
      clear h24 h23 h26 e21 e22 hgt hgp
      generalize (top.tk (((23 : Nat) : Int), y)).whole = S at *
      go_wp2
      have w1 : IntKind.i64.wrap ((m' : Int) + 1 + 1 - 2) = (m' : Int) := by rw [IntWalk.i64_in _ (by omega)]; omega
      have w2 : (m' : Int) < (m' : Int) + 1 + 1 := by omega
      have w3 : (0 : Int) ≤ (m' : Int) := by omega
      go_region_with (first
        | (go_at_call 213; (with_reducible refine (HWH.out _ HA0.out).mono ?_); rintro e wn ⟨rfl, hbn⟩)
        | (go_at_call 211; (with_reducible refine (HAD.out _ (rr_atp (HN.out _ hbn).1 HM'.out)).mono ?_); intro e wz hpz; have hz := rr_addp (HN.out _ hbn).1 HM'.out (HN.out _ hbn).2.2 hpz; obtain ⟨rfl, hz1, hz2⟩ := hz))
      all_goals
        have HZ := Lib.hid (And.intro (rr_less hz1 (by have := HM'.out; simp; omega)) ((HN.out _ hbn).2.1.trans hz2))
        go_wp2
        go_ret
        exact ⟨HZ.out.2, g, m' + 1, c, rfl, by rw [HS.out]; exact HZ.out.1⟩
    by_cases e26 : k = 26
    · subst e26
      obtain ⟨y0, y1⟩ := h26 rfl
      obtain ⟨j, rfl⟩ := Int.eq_ofNat_of_zero_le y0
      have hjk : j < known.length := by omega
      have HS : Hid (rgStep known b top (((26 : Nat) : Int), (j : Int)) = b ++ [(top.tk (((26 : Nat) : Int), (j : Int))).add (known.getD j (one 0 false))]) := Lib.hid (by
        unfold rgStep
        rw [if_neg (by simp), if_neg (by simp), if_neg (by simp), if_pos (by simp)]
        rfl)
      have hgt : (top.tk (((26 : Nat) : Int), (j : Int))).good := (HGOOD.out top (by simp)).tk _
      have HAD := Lib.hid (fun w h => add_any g (m * 12) (top.tk (((26 : Nat) : Int), (j : Int))) (known.getD j (one 0 false)) hgt.1 (known_ok HKO.out j) w h)
      obtain ⟨kb, ko, rfl, hkb, k0, k1, k2, k3, k4⟩ := (HK.out.bel HW.out.2.1).at hjk
      generalize known.getD j (one 0 false) = S at *
      clear h24 h23 h26 e21 e22 e23 hgt hjk
      go_wp2_with fail
      refine Calls.mono (HAD.out _ (rr_atm HW.out.1 HM.out)) ?_
      intro e wz hpz
      have hz := rr_addm HW.out.1 HM.out (by omega) hpz
      obtain ⟨rfl, hz1, hz2⟩ := hz
      have HZ := Lib.hid (And.intro hz1 (HW.out.2.1.trans hz2))
      clear hpz hz1 hz2 k0 k1 k2 k3 k4
      go_wp2
      go_ret
      exact ⟨HZ.out.2, g, m + 1, c, rfl, by rw [HS.out]; exact HZ.out.1⟩
    have HS : Hid (rgStep known b top ((k : Int), y) = b ++ [top.tk ((k : Int), y)]) := Lib.hid (by unfold rgStep; rw [if_neg (by show ¬ ((k : Int) = 21 ∨ (k : Int) = 24); omega), if_neg (by show ¬ (k : Int) = 22; omega), if_neg (by show ¬ (k : Int) = 23; omega), if_neg (by show ¬ (k : Int) = 26; omega)])
    have f1 : ((k : Int) == 21) = false := beq_eq_false_iff_ne.2 (by omega)
    have f2 : ((k : Int) == 24) = false := beq_eq_false_iff_ne.2 (by omega)
    have f3 : ((k : Int) == 22) = false := beq_eq_false_iff_ne.2 (by omega)
    have f4 : ((k : Int) == 23) = false := beq_eq_false_iff_ne.2 (by omega)
    have f5 : ((k : Int) == 26) = false := beq_eq_false_iff_ne.2 (by omega)
    clear e21 e22 e23 e26
    go_wp2
    go_ret
    exact ⟨HW.out.2.1, g, m + 1, c, rfl, by rw [HS.out]; exact HW.out.1⟩
end Go.Proofs.YtppgknjpbfopjaaGreatDoor
