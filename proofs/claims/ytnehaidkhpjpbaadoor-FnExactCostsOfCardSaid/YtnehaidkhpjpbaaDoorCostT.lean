/- The bound of a tree of statements; a trace of ticks and cuts lies within the bound of what made it. -/
import Derived.Test.YtnehaidkhpjpbaaDoorTree
import Derived.Test.YtnehaidkhpjpbaaDoorCost
namespace Go.Proofs.YtnehaidkhpjpbaaDoor
/-- The ticks of an operation. -/
def tick (op : Int) : Int := if op = 7 ∨ op = 8 ∨ op = 11 ∨ op = 18 ∨ op = 26 then 2 else if op = 12 then 4 else if op = 19 then 3 else 1
theorem tick_rng (op : Int) : 1 ≤ tick op ∧ tick op ≤ 4 := by
  unfold tick
  repeat' split
  all_goals omega
mutual
def St.cost (known : List SM) : St → SM
  | .op x => if x.1 = 26 then beh (one (tick x.1) false) (known.getD x.2.toNat (one 0 false)) else one (tick x.1) (decide (x.1 = 25))
  | .br b => beh (one 1 false) (eith (beh (costL known b (one 0 false)) (one 1 false)) (one 0 false))
  | .be b f => beh (one 1 false) (eith (beh (costL known b (one 0 false)) (one 1 false)) (beh (costL known f (one 0 false)) (one 1 false)))
  | .lp n b => beh (one 1 false) (tims (beh (costL known b (one 0 false)) (one 1 false)) n.toNat)
/-- What statements cost behind what has gone ahead of them. -/
def costL (known : List SM) : List St → SM → SM
  | [], out => out
  | s :: r, out => costL known r (beh out (s.cost known))
end
theorem known_ok {known : List SM} (h : ∀ a ∈ known, a.ok) (k : Nat) : (known.getD k (one 0 false)).ok := by
  rw [List.getD]
  cases e : known[k]? with
  | none => exact one_ok (by omega) false
  | some a => exact h a (List.mem_of_getElem? e)
mutual
theorem cost_ok {known : List SM} (h : ∀ a ∈ known, a.ok) : ∀ s : St, (s.cost known).ok
  | .op x => by
    have := tick_rng x.1
    rw [St.cost]
    split
    · exact beh_ok (one_ok (by omega) _) (known_ok h _)
    · exact one_ok (by omega) _
  | .br b => by
    rw [St.cost]
    exact beh_ok (one_ok (by omega) _) (eith_ok (beh_ok (costL_ok h b _ (one_ok (by omega) _)) (one_ok (by omega) _)) (one_ok (by omega) _))
  | .be b f => by
    rw [St.cost]
    exact beh_ok (one_ok (by omega) _) (eith_ok (beh_ok (costL_ok h b _ (one_ok (by omega) _)) (one_ok (by omega) _)) (beh_ok (costL_ok h f _ (one_ok (by omega) _)) (one_ok (by omega) _)))
  | .lp n b => by
    rw [St.cost]
    exact beh_ok (one_ok (by omega) _) (tims_ok (beh_ok (costL_ok h b _ (one_ok (by omega) _)) (one_ok (by omega) _)) _)
theorem costL_ok {known : List SM} (h : ∀ a ∈ known, a.ok) : ∀ (ts : List St) (o : SM), o.ok → (costL known ts o).ok
  | [], o, ho => by rw [costL]; exact ho
  | s :: r, o, ho => by rw [costL]; exact costL_ok h r _ (beh_ok ho (cost_ok h s))
end
/-- What has gone ahead stands in front. -/
theorem costL_front {known : List SM} (h : ∀ a ∈ known, a.ok) : ∀ (ts : List St) (o : SM), o.ok → costL known ts o = beh o (costL known ts (one 0 false))
  | [], o, ho => by rw [costL, costL, beh_none ho]
  | s :: r, o, ho => by
    have hs := cost_ok h s
    have h0 := one_ok (n := 0) (by omega) false
    rw [costL, costL, costL_front h r _ (beh_ok ho hs), costL_front h r (beh (one 0 false) (s.cost known)) (beh_ok h0 hs), none_beh hs, beh_assoc ho hs (costL_ok h r _ h0)]
theorem costL_cons {known : List SM} (h : ∀ a ∈ known, a.ok) (s : St) (r : List St) : costL known (s :: r) (one 0 false) = beh (s.cost known) (costL known r (one 0 false)) := by
  rw [costL, none_beh (cost_ok h s), costL_front h r _ (cost_ok h s)]
theorem costL_app {known : List SM} (h : ∀ a ∈ known, a.ok) : ∀ (a b : List St) (o : SM), costL known (a ++ b) o = costL known b (costL known a o)
  | [], b, o => by rw [List.nil_append, costL]
  | s :: r, b, o => by rw [List.cons_append, costL, costL, costL_app h r b]
/-- One bound is within another. -/
def SM.le (a b : SM) : Prop := a.t ≤ b.t ∧ a.n ≤ b.n ∧ a.h ≤ b.h ∧ a.l ≤ b.l ∧ a.i ≤ b.i
theorem SM.le_refl (a : SM) : a.le a := ⟨Int.le_refl _, Int.le_refl _, Int.le_refl _, Int.le_refl _, Int.le_refl _⟩
theorem SM.le.trans {a b c : SM} (h : a.le b) (g : b.le c) : a.le c := ⟨Int.le_trans h.1 g.1, Int.le_trans h.2.1 g.2.1, Int.le_trans h.2.2.1 g.2.2.1, Int.le_trans h.2.2.2.1 g.2.2.2.1, Int.le_trans h.2.2.2.2 g.2.2.2.2⟩
theorem max_le_max' {a b c d : Int} (h : a ≤ c) (g : b ≤ d) : max a b ≤ max c d := by omega
theorem beh_le {a b c d : SM} (h : a.le c) (g : b.le d) : (beh a b).le (beh c d) := by
  obtain ⟨h1, h2, h3, h4, h5⟩ := h
  obtain ⟨g1, g2, g3, g4, g5⟩ := g
  exact ⟨pls_mono h1 g1, pls_mono h2 g2, max_le_max' h3 (pls_mono h2 g3), max_le_max' g4 (pls_mono h4 g2), max_le_max' (max_le_max' h5 g5) (pls_mono h4 g3)⟩
theorem le_eith_left (a b : SM) : a.le (eith a b) := ⟨by show _ ≤ max _ _; omega, by show _ ≤ max _ _; omega, by show _ ≤ max _ _; omega, by show _ ≤ max _ _; omega, by show _ ≤ max _ _; omega⟩
theorem le_eith_right (a b : SM) : b.le (eith a b) := ⟨by show _ ≤ max _ _; omega, by show _ ≤ max _ _; omega, by show _ ≤ max _ _; omega, by show _ ≤ max _ _; omega, by show _ ≤ max _ _; omega⟩
/-- What a trace itself comes to: each event its ticks, and whether it is a cut. -/
def sumT : List (Int × Bool) → SM
  | [] => one 0 false
  | e :: r => beh (one e.1 e.2) (sumT r)
def okT (tr : List (Int × Bool)) : Prop := ∀ e ∈ tr, 0 ≤ e.1 ∧ e.1 ≤ 2147483647
theorem sumT_ok : ∀ {tr : List (Int × Bool)}, okT tr → (sumT tr).ok
  | [], _ => one_ok (by omega) false
  | e :: r, h => beh_ok (one_ok (h e (by simp)) _) (sumT_ok fun x hx => h x (by simp [hx]))
theorem sumT_app : ∀ {a b : List (Int × Bool)}, okT a → okT b → sumT (a ++ b) = beh (sumT a) (sumT b)
  | [], b, _, hb => by rw [List.nil_append, sumT, none_beh (sumT_ok hb)]
  | e :: r, b, ha, hb => by
    have hr : okT r := fun x hx => ha x (by simp [hx])
    rw [List.cons_append, sumT, sumT, sumT_app hr hb, beh_assoc (one_ok (ha e (by simp)) _) (sumT_ok hr) (sumT_ok hb)]
theorem sumT_one {e : Int × Bool} (h : 0 ≤ e.1 ∧ e.1 ≤ 2147483647) : sumT [e] = one e.1 e.2 := by rw [sumT, sumT, beh_none (one_ok h _)]
/-- The trace lies within the bound. -/
def Cov (a : SM) (tr : List (Int × Bool)) : Prop := okT tr ∧ (sumT tr).le a
theorem okT_app {a b : List (Int × Bool)} (h : okT a) (g : okT b) : okT (a ++ b) := fun x hx => by
  rcases List.mem_append.1 hx with hx | hx
  · exact h x hx
  · exact g x hx
theorem Cov.app {a b : SM} {x y : List (Int × Bool)} (h : Cov a x) (g : Cov b y) : Cov (beh a b) (x ++ y) :=
  ⟨okT_app h.1 g.1, by rw [sumT_app h.1 g.1]; exact beh_le h.2 g.2⟩
theorem Cov.nil : Cov (one 0 false) [] := ⟨by intro x hx; simp at hx, SM.le_refl _⟩
theorem Cov.one {n : Int} (c : Bool) (h : 0 ≤ n ∧ n ≤ 2147483647) : Cov (one n c) [(n, c)] :=
  ⟨by intro x hx; simp at hx; subst hx; exact h, by rw [sumT_one h]; exact SM.le_refl _⟩
theorem Cov.left {a b : SM} {x : List (Int × Bool)} (h : Cov a x) : Cov (eith a b) x := ⟨h.1, h.2.trans (le_eith_left a b)⟩
theorem Cov.right {a b : SM} {x : List (Int × Bool)} (h : Cov b x) : Cov (eith a b) x := ⟨h.1, h.2.trans (le_eith_right a b)⟩
/-- So many traces, one behind the other. -/
theorem Cov.times {a : SM} : ∀ {n : Nat} (f : Nat → List (Int × Bool)), (∀ i, i < n → Cov a (f i)) → Cov (tims a n) ((List.range n).flatMap f)
  | 0, f, _ => Cov.nil
  | n + 1, f, h => by
    rw [List.range_succ, List.flatMap_append, tims]
    refine (Cov.times f fun i hi => h i (by omega)).app ?_
    simpa using h n (by omega)
/-- How many ticks a trace takes. -/
def totT (tr : List (Int × Bool)) : Int := (tr.map (·.1)).sum
theorem totT_cons (e : Int × Bool) (r : List (Int × Bool)) : totT (e :: r) = e.1 + totT r := by simp [totT]
theorem totT_ge : ∀ {tr : List (Int × Bool)}, okT tr → 0 ≤ totT tr
  | [], _ => by simp [totT]
  | e :: r, h => by
    have h1 := h e (by simp)
    have h2 := totT_ge (tr := r) fun x hx => h x (by simp [hx])
    rw [totT_cons]
    omega
theorem sumT_t : ∀ {tr : List (Int × Bool)}, okT tr → (sumT tr).t = min (totT tr) 2147483647
  | [], _ => by
    show (0 : Int) = min (totT []) 2147483647
    simp [totT]
    omega
  | e :: r, h => by
    have h1 := h e (by simp)
    have hr : okT r := fun x hx => h x (by simp [hx])
    have h2 := totT_ge hr
    have h3 := sumT_t hr
    have h4 : (Go.Proofs.YtnehaidkhpjpbaaDoor.one e.1 e.2).t = e.1 := by unfold Go.Proofs.YtnehaidkhpjpbaaDoor.one; split <;> rfl
    rw [sumT, totT_cons]
    show pls (Go.Proofs.YtnehaidkhpjpbaaDoor.one e.1 e.2).t (sumT r).t = _
    rw [h3, h4]
    unfold pls
    rw [if_neg (by omega)]
    omega
/-- No trace within a bound takes longer than it, where the bound is no more than a value short of the greatest. -/
theorem Cov.total {a : SM} {tr : List (Int × Bool)} (h : Cov a tr) (ha : a.t < 2147483647) : totT tr ≤ a.t := by
  have h1 := sumT_t h.1
  have h2 := h.2.1
  omega
/-- The stretches between cuts, each with the cut that ends it; the last one is what is left (0 for none). -/
def blkT : List (Int × Bool) → Int → List Int
  | [], acc => [acc]
  | e :: r, acc => if e.2 = true then (acc + e.1) :: blkT r 0 else blkT r (acc + e.1)
theorem one_plus {a b : Int} (h : 0 ≤ a) (g : 0 ≤ b) (k : a + b ≤ 2147483647) : beh (one a false) (one b false) = one (a + b) false := by
  apply SM.eta
  · show pls a b = a + b
    unfold pls; rw [if_neg (by omega)]; omega
  · show pls a b = a + b
    unfold pls; rw [if_neg (by omega)]; omega
  · show max (-1) (pls a (-1)) = -1
    rw [pls_none]; omega
  · show max (-1) (pls (-1) b) = -1
    rw [none_pls]; omega
  · show max (max (-1) (-1)) (pls (-1) (-1)) = -1
    rw [pls_none]; omega
theorem blk_le : ∀ (tr : List (Int × Bool)) (acc : Int), okT tr → 0 ≤ acc → acc + totT tr ≤ 2147483647 → ∀ x ∈ blkT tr acc, x ≤ longest (beh (one acc false) (sumT tr))
  | [], acc, _, h0, hM, x, hx => by
    simp [totT] at hM
    rw [blkT, List.mem_singleton] at hx
    subst hx
    rw [sumT, beh_none (one_ok (by omega) false)]
    show x ≤ max (max x (-1)) (max (-1) (-1))
    omega
  | (n, c) :: r, acc, hok, h0, hM, x, hx => by
    have hn := hok (n, c) (by simp)
    have hr : okT r := fun y hy => hok y (by simp [hy])
    have hS := sumT_ok hr
    have ht := totT_ge hr
    rw [totT_cons] at hM
    dsimp only at hn hM
    rw [sumT]
    dsimp only
    cases c with
    | true =>
      rw [blkT, if_pos rfl] at hx
      obtain ⟨_, s2, s3, s4, s5, _⟩ := hS
      rcases List.mem_cons.1 hx with rfl | hx
      · have e1 : n ≤ (beh (one n true) (sumT r)).h := by show n ≤ max n _; omega
        have e2 : acc + n ≤ (beh (one acc false) (beh (one n true) (sumT r))).h := by
          show acc + n ≤ max (-1) (pls acc (beh (one n true) (sumT r)).h)
          have := pls_mono (Int.le_refl acc) e1
          have : pls acc n = acc + n := by unfold pls; rw [if_neg (by omega)]; omega
          omega
        unfold longest
        dsimp only
        omega
      · have ih := blk_le r 0 hr (by omega) (by omega) x hx
        rw [none_beh (sumT_ok hr)] at ih
        have a1 : (sumT r).n ≤ (beh (one n true) (sumT r)).l := by
          show _ ≤ max (sumT r).l (pls 0 (sumT r).n)
          rw [zero_pls _ (by have := (sumT_ok hr).1; omega)]
          omega
        have a2 : (sumT r).l ≤ (beh (one n true) (sumT r)).l := by show _ ≤ max (sumT r).l _; omega
        have a3 : (sumT r).h ≤ (beh (one n true) (sumT r)).i := by
          show _ ≤ max (max (-1) (sumT r).i) (pls 0 (sumT r).h)
          rw [zero_pls _ (by have := (sumT_ok hr).1; omega)]
          omega
        have a4 : (sumT r).i ≤ (beh (one n true) (sumT r)).i := by show _ ≤ max (max (-1) (sumT r).i) _; omega
        generalize beh (one n true) (sumT r) = T at *
        have b1 : T.l ≤ (beh (one acc false) T).l := by show _ ≤ max T.l _; omega
        have b2 : T.i ≤ (beh (one acc false) T).i := by show _ ≤ max (max (-1) T.i) _; omega
        unfold longest at *
        omega
    | false =>
      rw [blkT, if_neg (by simp)] at hx
      have ih := blk_le r (acc + n) hr (by omega) (by omega) x hx
      rw [← beh_assoc (one_ok (by omega) false) (one_ok hn false) hS, one_plus h0 hn.1 (by omega)]
      exact ih
theorem longest_mono {a b : SM} (h : a.le b) : longest a ≤ longest b := by
  obtain ⟨_, h2, h3, h4, h5⟩ := h
  unfold longest
  omega
/-- No stretch between cuts is longer than the longest of the bound. -/
theorem Cov.block {a : SM} {tr : List (Int × Bool)} (h : Cov a tr) (ha : a.t < 2147483647) : ∀ x ∈ blkT tr 0, x ≤ longest a := fun x hx => by
  have h1 := h.total ha
  have h2 := blk_le tr 0 h.1 (by omega) (by omega) x hx
  rw [none_beh (sumT_ok h.1)] at h2
  exact Int.le_trans h2 (longest_mono h.2)
end Go.Proofs.YtnehaidkhpjpbaaDoor
