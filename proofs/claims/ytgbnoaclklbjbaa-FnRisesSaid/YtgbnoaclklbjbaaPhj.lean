/- A region that draws its order, each operation walked once, a store among them too: what each yields may be told together with what it waits for. Over any program. (After XPhi.) -/
import Derived.Test.YtgbnoaclklbjbaaPhi
import Derived.StillTail
import Derived.OwnWalk
import Derived.Below
import Derived.OrdersHeld
import Derived.Deep.RegionHeld3
namespace Go.Proofs.Ytgbnoaclklbjbaa
open Go.RowKit (Below)
set_option linter.unusedVariables false
section
variable {P : Program} {ops : Array Oper} {Q : Exit → Act → World → Prop}
/-- The frame where the operations that f tells have been carried out, with the values v, in the slots ds. -/
structure PjAt (a0 : Act) (ds : List (Option Nat)) (v : Nat → Value) (f : Nat → Bool) (a : Act) : Prop where
  defers : a.defers = a0.defers
  size : a.tmps.size = a0.tmps.size
  done : ∀ k t, f k = true → ds[k]? = some (some t) → a.tmps.getD t undef = v k
  old : ∀ t, (∀ k, ds[k]? = some (some t) → f k = false) → a.tmps.getD t undef = a0.tmps.getD t undef
theorem PjAt.start (a0 : Act) (ds : List (Option Nat)) (v : Nat → Value) : PjAt a0 ds v (fun _ => false) a0 := ⟨rfl, rfl, (fun _ _ h => by cases h), fun _ _ => rfl⟩
def pjInj (ds : List (Option Nat)) : Prop := ∀ (i j d : Nat), ds[i]? = some (some d) → ds[j]? = some (some d) → i = j
theorem PjAt.put {a0 : Act} {ds : List (Option Nat)} {v : Nat → Value} {f : Nat → Bool} {a : Act} (h : PjAt a0 ds v f a) (hn : pjInj ds) {k : Nat} {d : Option Nat} (hd : ds[k]? = some d) (hl : ∀ x, d = some x → x < a0.tmps.size) (hf : f k = false) (x : Value) :
    PjAt a0 ds (phU v k x) (fun j => j == k || f j) (a.put d x) := by
  cases d with
  | none =>
    refine ⟨h.defers, h.size, fun j t hj ht => ?_, fun t ht => h.old t (fun j hj => ?_)⟩
    · have e : j ≠ k := fun e => by rw [e, hd] at ht; cases ht
      have e' : (j == k) = false := by simpa using e
      simp only [e', Bool.false_or] at hj
      rw [phU_ne e]
      exact h.done j t hj ht
    · have := ht j hj
      simp only [Bool.or_eq_false_iff] at this
      exact this.2
  | some d =>
    refine ⟨h.defers, by simp [Act.put, h.size], fun j t hj ht => ?_, fun t ht => ?_⟩
    · simp only [Act.put, ph_getD]
      by_cases e : j = k
      · subst e
        rw [hd] at ht
        cases ht
        rw [if_pos ⟨rfl, by rw [h.size]; exact hl _ rfl⟩, phU_at]
      · have hne : d ≠ t := fun q => by
          subst q
          exact e (hn _ _ _ ht hd)
        rw [if_neg (fun q => hne q.1), phU_ne e]
        have : (j == k) = false := by simpa using e
        simp only [this, Bool.false_or] at hj
        exact h.done j t hj ht
    · simp only [Act.put, ph_getD]
      have hne : d ≠ t := fun q => by
        subst q
        have := ht k hd
        simp at this
      rw [if_neg (fun q => hne q.1)]
      exact h.old t (fun j hj => by
        have := ht j hj
        simp only [Bool.or_eq_false_iff] at this
        exact this.2)
/-- All of them. -/
def pjAll (a0 : Act) (v : Nat → Value) : Nat → List (Option Nat) → Act
  | _, [] => a0
  | k, d :: ds => pjAll (a0.put d (v k)) v (k + 1) ds
theorem pj_size (a : Act) (d : Option Nat) (x : Value) : (a.put d x).tmps.size = a.tmps.size := by cases d <;> simp [Act.put]
theorem pj_def (a : Act) (d : Option Nat) (x : Value) : (a.put d x).defers = a.defers := by cases d <;> rfl
theorem pj_get (a : Act) (d : Option Nat) (x : Value) {t : Nat} (h : d ≠ some t) : (a.put d x).tmps.getD t undef = a.tmps.getD t undef := by
  cases d with
  | none => rfl
  | some d =>
    simp only [Act.put, ph_getD]
    rw [if_neg (fun q => h (by rw [q.1]))]
theorem pjAll_at : ∀ (ds : List (Option Nat)) (a0 : Act) (v : Nat → Value) (k : Nat), pjInj ds → (∀ d, some d ∈ ds → d < a0.tmps.size) →
    (pjAll a0 v k ds).defers = a0.defers ∧ (pjAll a0 v k ds).tmps.size = a0.tmps.size ∧ (∀ j t, ds[j]? = some (some t) → (pjAll a0 v k ds).tmps.getD t undef = v (k + j)) ∧ ∀ t, some t ∉ ds → (pjAll a0 v k ds).tmps.getD t undef = a0.tmps.getD t undef
  | [], a0, v, k, _, _ => ⟨rfl, rfl, fun j t h => by simp at h, fun _ _ => rfl⟩
  | d :: ds, a0, v, k, hn, hl => by
    have hn' : pjInj ds := fun i j x hi hj => by
      have := hn (i + 1) (j + 1) x (by simpa using hi) (by simpa using hj)
      omega
    have hs := pj_size a0 d (v k)
    obtain ⟨h1, h2, h3, h4⟩ := pjAll_at ds (a0.put d (v k)) v (k + 1) hn' (fun x hx => by rw [hs]; exact hl x (List.mem_cons_of_mem _ hx))
    refine ⟨h1.trans (pj_def _ _ _), h2.trans hs, fun j t hj => ?_, fun t ht => ?_⟩
    · cases j with
      | zero =>
        simp at hj
        subst hj
        have hnm : some t ∉ ds := fun hm => by
          obtain ⟨j, hj, e⟩ := List.getElem_of_mem hm
          have := hn 0 (j + 1) t (by simp) (by simp [List.getElem?_eq_getElem hj, e])
          omega
        rw [pjAll, h4 t hnm]
        simp only [Act.put, ph_getD]
        rw [if_pos (by simpa using hl t (List.mem_cons_self ..))]
        rfl
      | succ j =>
        rw [pjAll, h3 j t (by simpa using hj), show k + 1 + j = k + (j + 1) by omega]
    · simp only [List.mem_cons, not_or] at ht
      rw [pjAll, h4 t ht.2, pj_get _ _ _ (fun e => ht.1 e.symm)]
theorem PjAt.all {a0 : Act} {ds : List (Option Nat)} {v : Nat → Value} {f : Nat → Bool} {a : Act} (h : PjAt a0 ds v f a) (hn : pjInj ds) (hl : ∀ d, some d ∈ ds → d < a0.tmps.size) (hf : ∀ k, k < ds.length → f k = true) : a = pjAll a0 v 0 ds := by
  obtain ⟨h1, h2, h3, h4⟩ := pjAll_at ds a0 v 0 hn hl
  refine ph_ext (h.defers.trans h1.symm) (h.size.trans h2.symm) fun t => ?_
  by_cases ht : some t ∈ ds
  · obtain ⟨j, hj, e⟩ := List.getElem_of_mem ht
    have hj' : ds[j]? = some (some t) := by rw [List.getElem?_eq_getElem hj, e]
    rw [h.done j t (hf j hj) hj', h3 j t hj', Nat.zero_add]
  · rw [h4 t ht, h.old t (fun k hk => absurd (List.mem_of_getElem? hk) ht)]
/-- One operation: it yields a value of which Φ tells, and what Φ told of the others it still tells. -/
def PjStep (P : Program) (ops : Array Oper) (Q : Exit → Act → World → Prop) (a0 : Act) (ds : List (Option Nat)) (S : World → Prop) (Φ : Nat → (Nat → Value) → World → Prop) (D : Nat → List Nat) (k : Nat) (o : Oper) : Prop :=
  ∀ (v : Nat → Value) (f : Nat → Bool) (a : Act) (w : World), PjAt a0 ds v f a → S w → (∀ j, f j = true → Φ j v w) → f k = false → (∀ j, f j = true → ∀ i ∈ D j, f i = true) → (∀ e ∈ o.after, Region.binds .any e = true → f e.on = true) →
    ∀ K : Act → World → Prop, Shut (∀ x w', Φ k (phU v k x) w' → (∀ j, f j = true → Φ j (phU v k x) w') → S w' → K (a.put o.dst x) w') → o.wp P a w K Q
def PjSteps (P : Program) (ops : Array Oper) (Q : Exit → Act → World → Prop) (a0 : Act) (ds : List (Option Nat)) (S : World → Prop) (Φ : Nat → (Nat → Value) → World → Prop) (D : Nat → List Nat) : Nat → List Oper → Prop
  | _, [] => True
  | k, o :: os => PjStep P ops Q a0 ds S Φ D k o ∧ PjSteps P ops Q a0 ds S Φ D (k + 1) os
theorem PjSteps.at {a0 : Act} {ds : List (Option Nat)} {S : World → Prop} {Φ : Nat → (Nat → Value) → World → Prop} {D : Nat → List Nat} : ∀ {l : List Oper} {k j : Nat} {o : Oper}, PjSteps P ops Q a0 ds S Φ D k l → l[j]? = some o → PjStep P ops Q a0 ds S Φ D (k + j) o
  | [], _, _, _, _, h => by simp at h
  | x :: l, k, 0, o, h, e => by
    simp at e
    subst e
    exact h.1
  | x :: l, k, j + 1, o, h, e => by
    have := PjSteps.at (k := k + 1) (j := j) h.2 (by simpa using e)
    rwa [Nat.add_assoc, Nat.add_comm 1 j] at this
theorem PjSteps.cons {a0 : Act} {ds : List (Option Nat)} {S : World → Prop} {Φ : Nat → (Nat → Value) → World → Prop} {D : Nat → List Nat} {k : Nat} {o : Oper} {os : List Oper} (h : PjStep P ops Q a0 ds S Φ D k o) (g : PjSteps P ops Q a0 ds S Φ D (k + 1) os) : PjSteps P ops Q a0 ds S Φ D k (o :: os) := ⟨h, g⟩
theorem PjSteps.nil {a0 : Act} {ds : List (Option Nat)} {S : World → Prop} {Φ : Nat → (Nat → Value) → World → Prop} {D : Nat → List Nat} {k : Nat} : PjSteps P ops Q a0 ds S Φ D k [] := trivial
def pjB (ops : Array Oper) (m : Nat) (ds : List (Option Nat)) (D : Nat → List Nat) : Bool :=
  decide (m ≤ ops.size) && (decide (ds.length = m) && (((List.range m).all fun i => (List.range m).all fun j => i == j || (ds[i]?.getD none).isNone || !(ds[i]? == ds[j]?)) &&
  (((List.range m).all fun k => ((ops[k]?).map fun o => o.guard.isNone && decide (some o.dst = ds[k]?) && (phDeps ops k).all fun e => decide (e < k)).getD false && (D k).all fun i => i == k || (phGrow ops m (phDeps ops k)).contains i) &&
  (((List.range (ops.size - m)).all fun j => ((ops[m + j]?).map fun o => o.guard.isNone).getD false && (List.range m).all fun k => (phGrow ops m (phDeps ops (m + j))).contains k) &&
  (((List.range (ops.size - m)).all fun j => Region.ready .any ops (phC ops.size (m + j)) == [m + j]) &&
  (Region.ready .any ops (phC ops.size ops.size) == []))))))
theorem pj_inj {m : Nat} {ds : List (Option Nat)} (hl : ds.length = m) (h : ∀ i, i < m → ∀ j, j < m → ((i == j || (ds[i]?.getD none).isNone || !(ds[i]? == ds[j]?)) = true)) : pjInj ds := fun i j d hi hj => by
  have h1 := (List.getElem?_eq_some_iff.1 hi).1
  have h2 := (List.getElem?_eq_some_iff.1 hj).1
  have := h i (by omega) j (by omega)
  rw [hi, hj] at this
  simpa using this
theorem pj_any {m : Nat} {ds : List (Option Nat)} {a0 : Act} {S : World → Prop} {Φ : Nat → (Nat → Value) → World → Prop} {D : Nat → List Nat} (hb : pjB ops m ds D = true) (hsz : ∀ d, some d ∈ ds → d < a0.tmps.size)
    (steps : PjSteps P ops Q a0 ds S Φ D 0 (ops.toList.take m))
    (fin : ∀ v w, S w → (∀ k, k < m → Φ k v w) → phTail P Q (ops.toList.drop m) (pjAll a0 v 0 ds) w) :
    ∀ (fuel : Nat) (listed : Array Bool) (v : Nat → Value) (a : Act) (w : World), listed.size = ops.size → (List.range ops.size).countP (fun i => !listed.getD i false) ≤ fuel → PhDown ops listed → (∀ i, m ≤ i → listed.getD i false = false) →
      PjAt a0 ds v (fun j => listed.getD j false) a → S w → (∀ j, listed.getD j false = true → Φ j v w) → wpAny P .any ops Q fuel listed a w := by
  unfold pjB at hb
  simp only [Bool.and_eq_true, decide_eq_true_eq, List.all_eq_true, List.mem_range, beq_iff_eq] at hb
  obtain ⟨hm, hlen, hnd0, hk, hcov, hr, he⟩ := hb
  have hnd : pjInj ds := pj_inj hlen (fun i hi j hj => by have := hnd0 i hi j hj; simpa [Bool.or_eq_true] using this)
  have hg : ∀ j o, j < ops.size - m → ops[m + j]? = some o → o.guard = none := fun j o hj ho => by
    have := (hcov j hj).1
    rw [ho] at this
    simpa using this
  have hkk : ∀ k o, k < m → ops[k]? = some o → o.guard = none ∧ some o.dst = ds[k]? ∧ ∀ e ∈ phDeps ops k, e < k := fun k o hkm ho => by
    have := (hk k hkm).1
    rw [ho] at this
    simpa [Bool.and_eq_true, and_assoc] using this
  have hD : ∀ k, k < m → ∀ i ∈ D k, i = k ∨ i ∈ phGrow ops m (phDeps ops k) := fun k hkm i hi => by
    have := (hk k hkm).2 i hi
    simpa [Bool.or_eq_true] using this
  have end_ : ∀ (fuel : Nat) (listed : Array Bool) (v : Nat → Value) (a : Act) (w : World), listed.size = ops.size → (List.range ops.size).countP (fun i => !listed.getD i false) ≤ fuel → (∀ i, m ≤ i → listed.getD i false = false) → (∀ i, i < m → listed.getD i false = true) →
      PjAt a0 ds v (fun j => listed.getD j false) a → S w → (∀ j, listed.getD j false = true → Φ j v w) → wpAny P .any ops Q fuel listed a w := by
    intro fuel listed v a w hs hf hlo hall hat hSw hv
    have hl : ∀ i, i < ops.size → listed.getD i false = decide (i < m + 0) := fun i _ => by
      by_cases c : i < m
      · rw [hall i c]; simp [c]
      · rw [hlo i (by omega)]; simp [c]
    have hcount : ops.size - m ≤ fuel := by
      refine Nat.le_trans ?_ hf
      have h1 : (List.range ops.size).countP (fun i => !listed.getD i false) = (List.range ops.size).countP (fun i => !decide (i < m)) := List.countP_congr fun i hi => by
        rw [hl i (List.mem_range.1 hi)]; simp
      rw [h1]
      have h2 : (List.range ops.size) = List.range m ++ (List.range (ops.size - m)).map (m + ·) := by
        rw [← List.range_add]; congr 1; omega
      rw [h2, List.countP_append, List.countP_map]
      have h3 : (List.range (ops.size - m)).countP ((fun i => !decide (i < m)) ∘ (m + ·)) = ops.size - m := by
        rw [List.countP_eq_length.2 (fun i _ => by simp)]; simp
      omega
    refine ph_tail hr he hm hg (ops.size - m) 0 fuel listed a w (by omega) hcount hs hl ?_
    rw [hat.all hnd hsz (fun k hk => hall k (by omega))]
    exact fin v w hSw (fun k hk => hv k (hall k hk))
  intro fuel
  induction fuel with
  | zero =>
    intro listed v a w hs hf hdn hlo hat hSw hv
    refine end_ 0 listed v a w hs hf hlo (fun i hi => ?_) hat hSw hv
    have h0 : (List.range ops.size).countP (fun i => !listed.getD i false) = 0 := by omega
    have := (List.countP_eq_zero.1 h0) i (List.mem_range.2 (by omega))
    simpa using this
  | succ fuel ih =>
    intro listed v a w hs hf hdn hlo hat hSw hv
    by_cases hall : ∀ i, i < m → listed.getD i false = true
    · exact end_ (fuel + 1) listed v a w hs hf hlo hall hat hSw hv
    have hex : ∃ i, i < m ∧ listed.getD i false = false := by
      refine Classical.byContradiction fun h => hall fun i hi => ?_
      cases hq : listed.getD i false
      · exact absurd ⟨i, hi, hq⟩ h
      · rfl
    have hready_ex : ∃ i, i ∈ Region.ready .any ops listed := by
      refine Classical.byContradiction fun h => ?_
      have : ∀ i, i < m → listed.getD i false = true := by
        intro i
        induction i using Nat.strongRecOn with
        | _ i ihi =>
          intro him
          cases hq : listed.getD i false
          · exfalso
            have hil : i < ops.size := by omega
            refine h ⟨i, mem_ready.2 ⟨?_, ops[i], Array.getElem?_eq_getElem hil, fun e he hb' => ?_⟩⟩
            · have hi' : i < listed.size := by omega
              simpa [hi'] using hq
            · have hlt := (hkk i _ him (Array.getElem?_eq_getElem hil)).2.2 e.on (by
                unfold phDeps
                rw [Array.getElem?_eq_getElem hil]
                simp only [Option.map_some, Option.getD_some, List.mem_map, List.mem_filter, Array.mem_toList_iff]
                exact ⟨e, ⟨he, hb'⟩, rfl⟩)
              have h1 := ihi e.on hlt (by omega)
              have hi' : e.on < listed.size := by omega
              simpa [hi'] using h1
          · rfl
      exact hall this
    refine ⟨fun h0 => (by obtain ⟨i, hi⟩ := hready_ex; rw [h0] at hi; cases hi), fun i hi => ?_⟩
    obtain ⟨h1, o, ho, hafter⟩ := mem_ready.1 hi
    have hil : i < ops.size := (Array.getElem?_eq_some_iff.1 ho).1
    have his : i < listed.size := by omega
    have h1' : listed.getD i false = false := by simpa [his] using h1
    have hafter' : ∀ e ∈ o.after, Region.binds .any e = true → listed.getD e.on false = true := fun e he hb' => by
      have := hafter e he hb'
      rcases Nat.lt_or_ge e.on listed.size with h' | h'
      · simpa [h'] using this
      · simp [Array.getElem?_eq_none h'] at this
    have him : i < m := by
      refine Classical.byContradiction fun hge => ?_
      obtain ⟨k, hkm, hkf⟩ := hex
      have hc := (hcov (i - m) (by omega)).2 k hkm
      rw [show m + (i - m) = i by omega] at hc
      have hin : k ∈ phGrow ops m (phDeps ops i) := by simpa using hc
      have := ph_grow hdn m (phDeps ops i) (fun e he => by
        obtain ⟨o', ho', x, hx, hb', rfl⟩ := ph_deps he
        rw [ho] at ho'
        cases ho'
        exact hafter' x hx hb') k hin
      rw [hkf] at this
      cases this
    obtain ⟨hgd, hdst, _⟩ := hkk i o him ho
    have hstep := steps.at (j := i) (o := o) (by rw [List.getElem?_take, if_pos him, Array.getElem?_toList]; exact ho)
    rw [Nat.zero_add] at hstep
    unfold wpOp
    simp only [ho]
    rw [if_pos (by unfold Region.wanted; rw [hgd])]
    have hcl : ∀ j, listed.getD j false = true → ∀ i ∈ D j, listed.getD i false = true := fun j hj i' hi' => by
      have hjm : j < m := by
        refine Classical.byContradiction fun q => ?_
        rw [hlo j (by omega)] at hj
        cases hj
      rcases hD j hjm i' hi' with rfl | hin
      · exact hj
      · obtain ⟨oj, hoj⟩ : ∃ oj, ops[j]? = some oj := ⟨_, Array.getElem?_eq_getElem (by omega)⟩
        exact ph_grow hdn m (phDeps ops j) (fun e he => by
          obtain ⟨o', ho', x, hx, hb', rfl⟩ := ph_deps he
          rw [hoj] at ho'
          cases ho'
          exact hdn j oj hoj hj x hx hb') i' hin
    refine .inl (hstep v _ a w hat hSw hv h1' hcl hafter' _ (fun x w' hx hall' hSw' => ?_))
    obtain ⟨d, hd⟩ : ∃ d, ds[i]? = some d := ⟨_, List.getElem?_eq_getElem (by omega)⟩
    have hdd : o.dst = d := by rw [hd] at hdst; exact Option.some.inj hdst
    rw [hdd]
    have hset : ∀ j, (listed.setIfInBounds i true).getD j false = (j == i || listed.getD j false) := fun j => by
      by_cases e : i = j
      · subst e; simp [his]
      · have e' : (j == i) = false := by simpa using fun q => e q.symm
        simp [Array.getD_eq_getD_getElem?, e, e']
    refine ih _ (phU v i x) _ w' (by simpa using hs) ?_ ?_ ?_ ?_ hSw' ?_
    · have hlt : (List.range ops.size).countP (fun j => !(listed.setIfInBounds i true).getD j false) < (List.range ops.size).countP (fun j => !listed.getD j false) := by
        refine ph_count (x := i) (fun y _ hy => ?_) (List.mem_range.2 hil) (by rw [h1']; rfl) (by rw [hset]; simp)
        rw [hset] at hy
        simp only [Bool.not_or, Bool.and_eq_true] at hy
        exact hy.2
      omega
    · intro k o' ho' hlk e he hb'
      rw [hset] at hlk ⊢
      by_cases c : k = i
      · subst c
        rw [ho] at ho'
        cases ho'
        rw [hafter' e he hb']; simp
      · have c' : (k == i) = false := by simpa using c
        rw [c', Bool.false_or] at hlk
        rw [hdn k o' ho' hlk e he hb']; simp
    · intro k hkm
      rw [hset, hlo k hkm]
      have : (k == i) = false := by simp; omega
      rw [this]; rfl
    · have := hat.put hnd hd (fun y e => hsz y (by rw [← e]; exact List.mem_of_getElem? hd)) h1' x
      have e : (fun j => (listed.setIfInBounds i true).getD j false) = fun j => j == i || listed.getD j false := funext hset
      rw [e]
      exact this
    · intro j hj
      rw [hset] at hj
      by_cases c : j = i
      · subst c; exact hx
      · have c' : (j == i) = false := by simpa using c
        rw [c', Bool.false_or] at hj
        exact hall' j hj
/-- The region. -/
theorem wp_region_phj (m : Nat) (ds : List (Option Nat)) (S : World → Prop) (Φ : Nat → (Nat → Value) → World → Prop) (D : Nat → List Nat) {id : Nat} {a : Act} {w : World} (hm : P.follows .mixedOrders = true) (hb : pjB ops m ds D = true) (hsz : (ds.all fun d => match d with | some d => decide (d < a.tmps.size) | none => true) = true)
    (h0 : S w.drew)
    (steps : PjSteps P ops Q a ds S Φ D 0 (ops.toList.take m))
    (fin : ∀ v w, S w → (∀ k, k < m → Φ k v w) → phTail P Q (ops.toList.drop m) (pjAll a v 0 ds) w) : (Code.region id ops true).wp P Q a w := by
  refine wp_region_any hm (pj_any hb (fun d hd => by simpa using List.all_eq_true.1 hsz _ hd) steps fin ops.size _ (fun _ => undef) a _ (by simp) ?_ ?_ ?_ ?_ h0 ?_)
  · have := List.countP_le_length (l := List.range ops.size) (p := fun i => !(Array.replicate ops.size false).getD i false)
    simpa using this
  · intro k o _ hk
    simp [Array.getD_eq_getD_getElem?, Array.getElem?_replicate] at hk
    split at hk <;> simp at hk
  · intro i _
    by_cases h : i < ops.size <;> simp [Array.getD_eq_getD_getElem?, h]
  · have e : (fun j => (Array.replicate ops.size false).getD j false) = fun _ => false := by
      funext j
      by_cases h : j < ops.size <;> simp [Array.getD_eq_getD_getElem?, h]
    rw [e]
    exact PjAt.start a ds _
  · intro j hj
    by_cases h : j < ops.size <;> simp [Array.getD_eq_getD_getElem?, h] at hj
/-- What is told of an operation's value and of those that it waits for (D), so that it outlives what is made later. -/
structure HerQ where
  D : List Nat
  p : (Nat → Value) → World → Prop
  dep : ∀ v v' w, (∀ i ∈ D, v i = v' i) → p v w → p v' w
  keep : ∀ v w w', p v w → Below w.heap.size w w' → p v w'
def herQ (L : List HerQ) (k : Nat) (v : Nat → Value) (w : World) : Prop := match L[k]? with
  | some q => q.p v w
  | none => True
def herD (L : List HerQ) (k : Nat) : List Nat := match L[k]? with
  | some q => q.D
  | none => []
def atK (k : Nat) (p : HerP) : HerQ := ⟨[k], fun v w => p.1 (v k) w, fun v v' w h hp => by rw [← h k (by simp)]; exact hp, fun v w w' h hb => p.2 _ _ _ h hb⟩
theorem herQ_keep {L : List HerQ} {v : Nat → Value} {f : Nat → Bool} {k : Nat} {w w' : World} (hv : ∀ j, f j = true → herQ L j v w) (hk : f k = false) (hcl : ∀ j, f j = true → ∀ i ∈ herD L j, f i = true) (hb : Below w.heap.size w w') (x : Value) : ∀ j, f j = true → herQ L j (phU v k x) w' := fun j hj => by
  have h := hv j hj
  have hc := hcl j hj
  unfold herQ at h ⊢
  unfold herD at hc
  cases e : L[j]? with
  | none => trivial
  | some q =>
    rw [e] at h hc
    exact q.keep _ _ _ (q.dep _ _ _ (fun i hi => (phU_ne (fun c => by have := hc i hi; rw [c, hk] at this; cases this)).symm) h) hb
theorem herQ_same {L : List HerQ} {v : Nat → Value} {f : Nat → Bool} {k : Nat} {w : World} (hv : ∀ j, f j = true → herQ L j v w) (hk : f k = false) (hcl : ∀ j, f j = true → ∀ i ∈ herD L j, f i = true) (x : Value) : ∀ j, f j = true → herQ L j (phU v k x) w :=
  herQ_keep hv hk hcl (Below.refl _ _) x
theorem herQ_at {L : List HerQ} {k : Nat} {p : HerP} {v : Nat → Value} {x : Value} {w : World} (h : L[k]? = some (atK k p)) (hp : p.1 x w) : herQ L k (phU v k x) w := by
  unfold herQ
  rw [h]
  show p.1 (phU v k x k) w
  rw [phU_at]
  exact hp
end
end Go.Proofs.Ytgbnoaclklbjbaa
