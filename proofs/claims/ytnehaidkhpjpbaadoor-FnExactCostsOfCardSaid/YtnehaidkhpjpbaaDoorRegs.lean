/- Costs reckoned in one pass over code, what is open kept in a list: the same as the bound of the tree. -/
import Derived.Test.YtnehaidkhpjpbaaDoorCostT
namespace Go.Proofs.YtnehaidkhpjpbaaDoor
/-- What is open: its opener, what was read of the branch at hand, what the other branch came to. -/
structure RG where
  x : Ins
  own : SM
  oth : SM
def RG.add (r : RG) (a : SM) : RG := ⟨r.x, beh r.own a, r.oth⟩
def RG.whole (r : RG) : SM := if r.x.1 = 24 then tims r.own r.x.2.toNat else eith r.oth r.own
def rgNew (x : Ins) : RG := ⟨x, one 0 false, one 0 false⟩
/-- What the instruction itself takes. -/
def RG.tk (r : RG) (x : Ins) : RG := r.add (one (tick x.1) (decide (x.1 = 25)))
def rgStep (known : List SM) (b : List RG) (top : RG) (x : Ins) : List RG :=
  if x.1 = 21 ∨ x.1 = 24 then b ++ [top.tk x] ++ [rgNew x]
  else if x.1 = 22 then b ++ [⟨top.x, one 0 false, (top.tk x).own⟩]
  else if x.1 = 23 then (match b.getLast? with | none => b | some p => b.dropLast ++ [p.add (top.tk x).whole])
  else if x.1 = 26 then b ++ [(top.tk x).add (known.getD x.2.toNat (one 0 false))]
  else b ++ [top.tk x]
def rgRead (known : List SM) (os : List RG) (x : Ins) : List RG := match os.getLast? with | none => os | some top => rgStep known os.dropLast top x
def rgRun (known : List SM) (os : List RG) (xs : List Ins) : List RG := xs.foldl (rgRead known) os
theorem rgRead_snoc (known : List SM) (b : List RG) (top : RG) (x : Ins) : rgRead known (b ++ [top]) x = rgStep known b top x := by simp [rgRead]
theorem rgRun_app (known : List SM) (os : List RG) (a b : List Ins) : rgRun known os (a ++ b) = rgRun known (rgRun known os a) b := by simp [rgRun]
theorem rgRun_one (known : List SM) (os : List RG) (x : Ins) : rgRun known os [x] = rgRead known os x := rfl
theorem rgRun_cons (known : List SM) (os : List RG) (x : Ins) (b : List Ins) : rgRun known os (x :: b) = rgRun known (rgRead known os x) b := rfl
theorem one_add {t : RG} {a b : SM} (h : t.own.ok) (ha : a.ok) (hb : b.ok) : (t.add a).add b = t.add (beh a b) := by
  unfold RG.add
  dsimp only
  rw [beh_assoc h ha hb]
theorem rg_end (known : List SM) (b : List RG) (p top : RG) : rgRead known (b ++ [p] ++ [top]) (23, 0) = b ++ [p.add (top.tk (23, 0)).whole] := by
  rw [rgRead_snoc]
  unfold rgStep
  rw [if_neg (by simp), if_neg (by simp), if_pos rfl]
  simp
mutual
theorem rg_st {known : List SM} (hk : ∀ a ∈ known, a.ok) : ∀ (s : St) (b : List RG) (top : RG), s.pl → top.own.ok → rgRun known (b ++ [top]) s.fl = b ++ [top.add (s.cost known)]
  | .op x, b, top, hp, ho => by
    rw [St.pl] at hp
    have ht := tick_rng x.1
    rw [St.fl, rgRun_one, rgRead_snoc, St.cost]
    unfold rgStep
    rw [if_neg (by omega), if_neg (by omega), if_neg (by omega)]
    by_cases h : x.1 = 26
    · rw [if_pos h, if_pos h]
      have e : decide (x.1 = 25) = false := decide_eq_false (by omega)
      unfold RG.tk
      rw [e, one_add ho (one_ok (by omega) _) (known_ok hk _)]
    · rw [if_neg h, if_neg h]
      rfl
  | .br b', b, top, hp, ho => by
    rw [St.pl] at hp
    have h0 := one_ok (n := 0) (by omega) false
    have h1 := one_ok (n := 1) (by omega) false
    have hb := costL_ok hk b' _ h0
    rw [St.fl, rgRun_cons, rgRead_snoc, show rgStep known b top (21, 0) = (b ++ [top.tk (21, 0)]) ++ [rgNew (21, 0)] from rfl, rgRun_app, rg_L hk b' _ _ hp h0, rgRun_one, rg_end]
    rw [St.cost, show (top.tk (21, 0)) = top.add (one 1 false) from rfl]
    rw [one_add ho h1]
    · show _ = b ++ [top.add (beh (one 1 false) (eith (beh (costL known b' (one 0 false)) (one 1 false)) (one 0 false)))]
      rw [eith_comm]
      rfl
    · exact eith_ok h0 (beh_ok hb h1)
  | .be b' f, b, top, hp, ho => by
    rw [St.pl] at hp
    have h0 := one_ok (n := 0) (by omega) false
    have h1 := one_ok (n := 1) (by omega) false
    have hb := costL_ok hk b' _ h0
    have hf := costL_ok hk f _ h0
    rw [St.fl, rgRun_cons, rgRead_snoc, show rgStep known b top (21, 0) = (b ++ [top.tk (21, 0)]) ++ [rgNew (21, 0)] from rfl, rgRun_app, rg_L hk b' _ _ hp.1 h0, rgRun_cons, rgRead_snoc]
    rw [show rgStep known (b ++ [top.tk (21, 0)]) ⟨(rgNew (21, 0)).x, costL known b' (rgNew (21, 0)).own, (rgNew (21, 0)).oth⟩ (22, 0) = (b ++ [top.tk (21, 0)]) ++ [⟨(21, 0), one 0 false, beh (costL known b' (one 0 false)) (one 1 false)⟩] from rfl]
    rw [rgRun_app, rg_L hk f _ _ hp.2 h0, rgRun_one, rg_end]
    rw [St.cost, show (top.tk (21, 0)) = top.add (one 1 false) from rfl]
    rw [one_add ho h1]
    · rfl
    · exact eith_ok (beh_ok hb h1) (beh_ok hf h1)
  | .lp n b', b, top, hp, ho => by
    rw [St.pl] at hp
    have h0 := one_ok (n := 0) (by omega) false
    have h1 := one_ok (n := 1) (by omega) false
    have hb := costL_ok hk b' _ h0
    rw [St.fl, rgRun_cons, rgRead_snoc, show rgStep known b top (24, n) = (b ++ [top.tk (24, n)]) ++ [rgNew (24, n)] from rfl, rgRun_app, rg_L hk b' _ _ hp h0, rgRun_one, rg_end]
    rw [St.cost, show (top.tk (24, n)) = top.add (one 1 false) from rfl]
    rw [one_add ho h1]
    · rfl
    · exact tims_ok (beh_ok hb h1) _
theorem rg_L {known : List SM} (hk : ∀ a ∈ known, a.ok) : ∀ (ts : List St) (b : List RG) (top : RG), plL ts → top.own.ok → rgRun known (b ++ [top]) (flL ts) = b ++ [⟨top.x, costL known ts top.own, top.oth⟩]
  | [], b, top, _, _ => by rw [flL, costL]; rfl
  | s :: r, b, top, hp, ho => by
    rw [plL] at hp
    rw [flL, rgRun_app, rg_st hk s b top hp.1 ho, rg_L hk r b _ hp.2 (beh_ok ho (cost_ok hk s)), costL]
    rfl
end
/-- What code comes to behind known routines. -/
def codeCost (known : List SM) (zs : List Ins) : SM := ((rgRun known [rgNew (0, 0)] zs).getD 0 (rgNew (0, 0))).own
theorem codeCost_tree {known : List SM} (hk : ∀ a ∈ known, a.ok) {ts : List St} (hp : plL ts) : codeCost known (flL ts) = costL known ts (one 0 false) := by
  unfold codeCost
  have := rg_L hk ts [] (rgNew (0, 0)) hp (one_ok (by omega) _)
  rw [List.nil_append, List.nil_append] at this
  rw [this]
  rfl
def costsGo : List (List Ins) → List SM → List SM
  | [], known => known
  | zs :: r, known => costsGo r (known ++ [codeCost known zs])
/-- The bounds of routines, each behind those ahead of it. -/
def costsL (ls : List (List Ins)) : List SM := costsGo ls []
def RG.good (r : RG) : Prop := r.own.ok ∧ r.oth.ok ∧ (r.x.1 = 24 → 1 ≤ r.x.2 ∧ r.x.2 ≤ 20)
theorem RG.good.add {r : RG} (h : r.good) {a : SM} (ha : a.ok) : (r.add a).good := ⟨beh_ok h.1 ha, h.2.1, h.2.2⟩
theorem RG.good.tk {r : RG} (h : r.good) (x : Ins) : (r.tk x).good := h.add (one_ok (by have := tick_rng x.1; omega) _)
theorem RG.good.whole {r : RG} (h : r.good) : r.whole.ok := by
  unfold RG.whole
  split
  · exact tims_ok h.1 _
  · exact eith_ok h.2.1 h.1
theorem rgNew_good {x : Ins} (h : x.1 = 24 → 1 ≤ x.2 ∧ x.2 ≤ 20) : (rgNew x).good := ⟨one_ok (by omega) _, one_ok (by omega) _, h⟩
theorem rgStep_good {known : List SM} (hk : ∀ a ∈ known, a.ok) {b : List RG} {top : RG} (hb : ∀ r ∈ b, r.good) (ht : top.good) {x : Ins} (hx : x.1 = 24 → 1 ≤ x.2 ∧ x.2 ≤ 20) : ∀ r ∈ rgStep known b top x, r.good := by
  unfold rgStep
  intro r hr
  split at hr
  · rcases List.mem_append.1 hr with hr | hr
    · rcases List.mem_append.1 hr with hr | hr
      · exact hb r hr
      · rw [List.mem_singleton.1 hr]; exact ht.tk x
    · rw [List.mem_singleton.1 hr]; exact rgNew_good hx
  split at hr
  · rcases List.mem_append.1 hr with hr | hr
    · exact hb r hr
    · rw [List.mem_singleton.1 hr]; exact ⟨one_ok (by omega) _, (ht.tk x).1, ht.2.2⟩
  split at hr
  · split at hr
    · exact hb r hr
    · rename_i p hp
      rcases List.mem_append.1 hr with hr | hr
      · exact hb r ((List.dropLast_sublist b).subset hr)
      · rw [List.mem_singleton.1 hr]; exact (hb p (List.mem_of_getLast? hp)).add (ht.tk x).whole
  split at hr
  · rcases List.mem_append.1 hr with hr | hr
    · exact hb r hr
    · rw [List.mem_singleton.1 hr]; exact (ht.tk x).add (known_ok hk _)
  · rcases List.mem_append.1 hr with hr | hr
    · exact hb r hr
    · rw [List.mem_singleton.1 hr]; exact ht.tk x
theorem vNest_len {x : Ins} {i : Int} {w : VW} (_hx : 21 ≤ x.1 ∧ x.1 ≤ 24) (h : (vNest x i w).2 = 0) :
    (vNest x i w).1.opn.length = (if x.1 = 21 ∨ x.1 = 24 then w.opn.length + 1 else if x.1 = 22 then w.opn.length else w.opn.length - 1) ∧ (x.1 = 22 ∨ x.1 = 23 → 1 ≤ w.opn.length) := by
  revert h
  unfold vNest
  split
  · rename_i hop
    split
    · intro g; exact absurd g (by simp)
    · intro _
      exact ⟨by simp, fun h => by omega⟩
  · rename_i hop
    split
    · intro g; exact absurd g (by simp)
    · rename_i o ho
      have hl : 1 ≤ w.opn.length := by
        rcases hw : w.opn with _ | ⟨a, l⟩
        · rw [hw] at ho; simp at ho
        · simp
      split
      · intro g; exact absurd g (by simp)
      split
      · intro g; exact absurd g (by simp)
      split
      · intro _
        refine ⟨?_, fun _ => hl⟩
        simp
        omega
      · intro _
        refine ⟨by simp, fun _ => hl⟩
/-- As many are open as the verifier has open, and the routine around them. -/
theorem rg_len {known : List SM} {ks : List Int} {r : Int} {x : Ins} {i : Int} {w : VW} {b : List RG} {top : RG} (hb : b.length = w.opn.length) (h : (vStep ks r x i w).2 = 0) :
    (rgStep known b top x).length = (vStep ks r x i w).1.opn.length + 1 ∧ (x.1 = 23 → 1 ≤ b.length) ∧ (x.1 = 26 → x.2 < r) := by
  revert h
  unfold vStep
  split
  · intro g; exact absurd g (by simp)
  split
  · intro g; exact absurd g (by simp)
  rename_i h26
  dsimp only
  split
  · rename_i g1; intro g; exact absurd g g1
  split
  · intro g; exact absurd g (by simp)
  have h26' : x.1 = 26 → x.2 < r := fun e => by
    rcases Int.lt_or_le x.2 r with g | g
    · exact g
    · exact absurd ⟨e, g⟩ h26
  split
  · rename_i hn
    intro g
    obtain ⟨h1, h2⟩ := vNest_len hn g
    rw [h1]
    refine ⟨?_, fun e => by have := h2 (.inr e); dsimp only at this; omega, h26'⟩
    dsimp only
    unfold rgStep
    by_cases e1 : x.1 = 21 ∨ x.1 = 24
    · rw [if_pos e1, if_pos e1]; simp; omega
    rw [if_neg e1, if_neg e1]
    by_cases e2 : x.1 = 22
    · rw [if_pos e2, if_pos e2]; simp; omega
    rw [if_neg e2, if_neg e2, if_pos (by omega)]
    have := h2 (.inr (by omega))
    dsimp only at this
    rcases snoc_cases b with rfl | ⟨b', p, rfl⟩
    · simp at hb; omega
    · simp at hb ⊢; omega
  · rename_i hn
    intro _
    refine ⟨?_, fun e => absurd e (by omega), h26'⟩
    unfold rgStep
    rw [if_neg (by omega), if_neg (by omega), if_neg (by omega)]
    split <;> simp <;> omega
end Go.Proofs.YtnehaidkhpjpbaaDoor
