/- A region that draws its order, each operation walked once: what each yields is told by itself and outlives what is made later; then the tail, in its one order. Over any program. -/
import Derived.StillTail
import Derived.OwnWalk
import Derived.Below
import Derived.OrdersHeld
import Derived.Deep.RegionHeld3
namespace Go.Proofs.Ytgbnoaclklbjbaa
open Go.RowKit (Below)
set_option linter.unusedVariables false
section
variable {P : Program} {ops : Array Oper} {Q : Exit → Act → World → Prop}
/-- The frame where the operations that f tells have been carried out, with the values v, in the slots ds. -/
structure PhAt (a0 : Act) (ds : List Nat) (v : Nat → Value) (f : Nat → Bool) (a : Act) : Prop where
  defers : a.defers = a0.defers
  size : a.tmps.size = a0.tmps.size
  done : ∀ k t, f k = true → ds[k]? = some t → a.tmps.getD t undef = v k
  old : ∀ t, (∀ k, ds[k]? = some t → f k = false) → a.tmps.getD t undef = a0.tmps.getD t undef
def phU (v : Nat → Value) (k : Nat) (x : Value) : Nat → Value := fun j => if j = k then x else v j
theorem phU_at (v : Nat → Value) (k : Nat) (x : Value) : phU v k x k = x := by simp [phU]
theorem phU_ne {v : Nat → Value} {k j : Nat} {x : Value} (h : j ≠ k) : phU v k x j = v j := by simp [phU, h]
theorem PhAt.start (a0 : Act) (ds : List Nat) (v : Nat → Value) : PhAt a0 ds v (fun _ => false) a0 := ⟨rfl, rfl, (fun _ _ h => by cases h), fun _ _ => rfl⟩
theorem ph_getD {a : Array Value} {i j : Nat} {x : Value} : (a.setIfInBounds i x).getD j undef = if i = j ∧ i < a.size then x else a.getD j undef := by
  simp only [Array.getD_eq_getD_getElem?, Array.getElem?_setIfInBounds]
  by_cases e : i = j
  · subst e
    by_cases h : i < a.size
    · simp [h]
    · simp [h]
  · simp [e]
theorem PhAt.put {a0 : Act} {ds : List Nat} {v : Nat → Value} {f : Nat → Bool} {a : Act} (h : PhAt a0 ds v f a) (hn : ds.Nodup) {k d : Nat} (hd : ds[k]? = some d) (hl : d < a0.tmps.size) (hf : f k = false) (x : Value) :
    PhAt a0 ds (phU v k x) (fun j => j == k || f j) (a.put (some d) x) := by
  refine ⟨h.defers, by simp [Act.put, h.size], fun j t hj ht => ?_, fun t ht => ?_⟩
  · simp only [Act.put, ph_getD]
    by_cases e : j = k
    · subst e
      rw [hd] at ht
      cases ht
      rw [if_pos ⟨rfl, by rw [h.size]; exact hl⟩, phU_at]
    · have hne : d ≠ t := fun q => by
        subst q
        exact e ((List.getElem?_inj (List.getElem?_eq_some_iff.1 ht).1 hn).1 (ht.trans hd.symm))
      rw [if_neg (fun q => hne q.1), phU_ne e]
      have : (j == k) = false := by simpa using e
      simp only [this, Bool.false_or] at hj
      exact h.done j t hj ht
  · simp only [Act.put, ph_getD]
    have hne : d ≠ t := fun q => by
      subst q
      have := ht k hd
      simp at this
    rw [if_neg (fun q => hne q.1)]
    exact h.old t (fun j hj => by
      have := ht j hj
      simp only [Bool.or_eq_false_iff] at this
      exact this.2)
/-- All of them. -/
def phAll (a0 : Act) (v : Nat → Value) : Nat → List Nat → Act
  | _, [] => a0
  | k, d :: ds => phAll (a0.put (some d) (v k)) v (k + 1) ds
theorem phAll_at : ∀ (ds : List Nat) (a0 : Act) (v : Nat → Value) (k : Nat), ds.Nodup → (∀ d ∈ ds, d < a0.tmps.size) →
    (phAll a0 v k ds).defers = a0.defers ∧ (phAll a0 v k ds).tmps.size = a0.tmps.size ∧ (∀ j t, ds[j]? = some t → (phAll a0 v k ds).tmps.getD t undef = v (k + j)) ∧ ∀ t, t ∉ ds → (phAll a0 v k ds).tmps.getD t undef = a0.tmps.getD t undef
  | [], a0, v, k, _, _ => ⟨rfl, rfl, fun j t h => by simp at h, fun _ _ => rfl⟩
  | d :: ds, a0, v, k, hn, hl => by
    obtain ⟨hnd, hn'⟩ := List.nodup_cons.1 hn
    have hs : (a0.put (some d) (v k)).tmps.size = a0.tmps.size := by simp [Act.put]
    obtain ⟨h1, h2, h3, h4⟩ := phAll_at ds (a0.put (some d) (v k)) v (k + 1) hn' (fun x hx => by rw [hs]; exact hl x (List.mem_cons_of_mem _ hx))
    refine ⟨h1, h2.trans hs, fun j t hj => ?_, fun t ht => ?_⟩
    · cases j with
      | zero =>
        simp at hj
        subst hj
        rw [phAll, h4 d hnd]
        simp only [Act.put, ph_getD]
        rw [if_pos (by simpa using hl d (List.mem_cons_self ..))]
        rfl
      | succ j =>
        rw [phAll, h3 j t (by simpa using hj), show k + 1 + j = k + (j + 1) by omega]
    · simp only [List.mem_cons, not_or] at ht
      rw [phAll, h4 t ht.2]
      simp only [Act.put, ph_getD]
      rw [if_neg (fun q => ht.1 q.1.symm)]
theorem ph_ext {a b : Act} (h1 : a.defers = b.defers) (h2 : a.tmps.size = b.tmps.size) (h3 : ∀ t, a.tmps.getD t undef = b.tmps.getD t undef) : a = b := by
  obtain ⟨at_, ad⟩ := a
  obtain ⟨bt, bd⟩ := b
  simp only at h1 h2 h3
  subst h1
  have : at_ = bt := by
    refine Array.ext h2 fun i hi hj => ?_
    have := h3 i
    simpa [Array.getD_eq_getD_getElem?, hi, hj] using this
  rw [this]
theorem PhAt.all {a0 : Act} {ds : List Nat} {v : Nat → Value} {f : Nat → Bool} {a : Act} (h : PhAt a0 ds v f a) (hn : ds.Nodup) (hl : ∀ d ∈ ds, d < a0.tmps.size) (hf : ∀ k, k < ds.length → f k = true) : a = phAll a0 v 0 ds := by
  obtain ⟨h1, h2, h3, h4⟩ := phAll_at ds a0 v 0 hn hl
  refine ph_ext (h.defers.trans h1.symm) (h.size.trans h2.symm) fun t => ?_
  by_cases ht : t ∈ ds
  · obtain ⟨j, hj, e⟩ := List.getElem_of_mem ht
    have hj' : ds[j]? = some t := by rw [List.getElem?_eq_getElem hj, e]
    rw [h.done j t (hf j hj) hj', h3 j t hj', Nat.zero_add]
  · rw [h4 t ht, h.old t (fun k hk => absurd (List.mem_of_getElem? hk) ht)]
/-- An operation that keeps to itself: run where S holds and what it waits for has been told, it yields a value that Φ tells of, and changes nothing that was there. -/
def PhStep (P : Program) (ops : Array Oper) (Q : Exit → Act → World → Prop) (a0 : Act) (ds : List Nat) (S : World → Prop) (Φ : Nat → Value → World → Prop) (k : Nat) (o : Oper) : Prop :=
  ∀ (v : Nat → Value) (f : Nat → Bool) (a : Act) (w : World), PhAt a0 ds v f a → S w → (∀ j, f j = true → Φ j (v j) w) → (∀ e ∈ o.after, Region.binds .any e = true → f e.on = true) → ∀ K : Act → World → Prop, Shut (∀ x w', Φ k x w' → Below w.heap.size w w' → K (a.put o.dst x) w') → o.wp P a w K Q
def PhSteps (P : Program) (ops : Array Oper) (Q : Exit → Act → World → Prop) (a0 : Act) (ds : List Nat) (S : World → Prop) (Φ : Nat → Value → World → Prop) : Nat → List Oper → Prop
  | _, [] => True
  | k, o :: os => PhStep P ops Q a0 ds S Φ k o ∧ PhSteps P ops Q a0 ds S Φ (k + 1) os
theorem PhSteps.at {a0 : Act} {ds : List Nat} {S : World → Prop} {Φ : Nat → Value → World → Prop} : ∀ {l : List Oper} {k j : Nat} {o : Oper}, PhSteps P ops Q a0 ds S Φ k l → l[j]? = some o → PhStep P ops Q a0 ds S Φ (k + j) o
  | [], _, _, _, _, h => by simp at h
  | x :: l, k, 0, o, h, e => by
    simp at e
    subst e
    exact h.1
  | x :: l, k, j + 1, o, h, e => by
    have := PhSteps.at (k := k + 1) (j := j) h.2 (by simpa using e)
    rwa [Nat.add_assoc, Nat.add_comm 1 j] at this
theorem PhSteps.cons {a0 : Act} {ds : List Nat} {S : World → Prop} {Φ : Nat → Value → World → Prop} {k : Nat} {o : Oper} {os : List Oper} (h : PhStep P ops Q a0 ds S Φ k o) (g : PhSteps P ops Q a0 ds S Φ (k + 1) os) : PhSteps P ops Q a0 ds S Φ k (o :: os) := ⟨h, g⟩
theorem PhSteps.nil {a0 : Act} {ds : List Nat} {S : World → Prop} {Φ : Nat → Value → World → Prop} {k : Nat} : PhSteps P ops Q a0 ds S Φ k [] := trivial
def phDeps (ops : Array Oper) (k : Nat) : List Nat := ((ops[k]?).map fun o => (o.after.toList.filter fun e => Region.binds .any e).map (·.on)).getD []
def phGrow (ops : Array Oper) : Nat → List Nat → List Nat
  | 0, D => D
  | n + 1, D => phGrow ops n (D ++ D.flatMap (phDeps ops)).eraseDups
theorem ph_deps {k e : Nat} (h : e ∈ phDeps ops k) : ∃ o, ops[k]? = some o ∧ ∃ x ∈ o.after, Region.binds .any x = true ∧ x.on = e := by
  unfold phDeps at h
  cases ho : ops[k]? with
  | none => rw [ho] at h; simp at h
  | some o =>
    rw [ho] at h
    simp only [Option.map_some, Option.getD_some, List.mem_map, List.mem_filter, Array.mem_toList_iff] at h
    obtain ⟨x, ⟨h1, h2⟩, h3⟩ := h
    exact ⟨o, rfl, x, h1, h2, h3⟩
/-- What is listed waits for nothing that is not. -/
def PhDown (ops : Array Oper) (listed : Array Bool) : Prop := ∀ k o, ops[k]? = some o → listed.getD k false = true → ∀ e ∈ o.after, Region.binds .any e = true → listed.getD e.on false = true
theorem ph_grow {listed : Array Bool} (h : PhDown ops listed) : ∀ (n : Nat) (D : List Nat), (∀ k ∈ D, listed.getD k false = true) → ∀ k ∈ phGrow ops n D, listed.getD k false = true
  | 0, D, hD, k, hk => hD k hk
  | n + 1, D, hD, k, hk => by
    refine ph_grow h n _ (fun j hj => ?_) k hk
    rw [List.mem_eraseDups, List.mem_append] at hj
    rcases hj with hj | hj
    · exact hD j hj
    · obtain ⟨i, hi, hij⟩ := List.mem_flatMap.1 hj
      obtain ⟨o, ho, x, hx, hb, rfl⟩ := ph_deps hij
      exact h i o ho (hD i hi) x hx hb
theorem ph_count {α : Type} {p q : α → Bool} : ∀ {l : List α} {x : α}, (∀ y ∈ l, q y = true → p y = true) → x ∈ l → p x = true → q x = false → l.countP q < l.countP p
  | a :: l, x, h, hx, hp, hq => by
    have hle : l.countP q ≤ l.countP p := List.countP_mono_left fun y hy => h y (List.mem_cons_of_mem _ hy)
    rcases List.mem_cons.1 hx with rfl | hx
    · rw [List.countP_cons, List.countP_cons, hp, hq]
      simp
      omega
    · have := ph_count (fun y hy => h y (List.mem_cons_of_mem _ hy)) hx hp hq
      rw [List.countP_cons, List.countP_cons]
      by_cases hqa : q a = true
      · rw [hqa, h a (List.mem_cons_self ..) hqa]; omega
      · have : q a = false := by simpa using hqa
        rw [this]
        simp only [Bool.false_eq_true, if_false, Nat.add_zero]
        omega
/-- The first t are listed. -/
def phC (N t : Nat) : Array Bool := Array.ofFn (n := N) fun i => decide (i.val < t)
theorem ph_canon {listed : Array Bool} {N t : Nat} (hs : listed.size = N) (h : ∀ i, i < N → listed.getD i false = decide (i < t)) : listed = phC N t := by
  refine Array.ext (by simp [phC, hs]) fun i h1 h2 => ?_
  have := h i (by omega)
  simp only [phC, Array.getElem_ofFn]
  rw [← this]
  simp [h1]
def phB (ops : Array Oper) (m : Nat) (ds : List Nat) : Bool :=
  decide (m ≤ ops.size) && (decide (ds.length = m) && (decide ds.Nodup &&
  (((List.range m).all fun k => ((ops[k]?).map fun o => o.guard.isNone && decide (o.dst = ds[k]?) && (phDeps ops k).all fun e => decide (e < k)).getD false) &&
  (((List.range (ops.size - m)).all fun j => ((ops[m + j]?).map fun o => o.guard.isNone).getD false && (List.range m).all fun k => (phGrow ops m (phDeps ops (m + j))).contains k) &&
  (((List.range (ops.size - m)).all fun j => Region.ready .any ops (phC ops.size (m + j)) == [m + j]) &&
  (Region.ready .any ops (phC ops.size ops.size) == []))))))
def phTail (P : Program) (Q : Exit → Act → World → Prop) : List Oper → Act → World → Prop
  | [], a, w => Q .normal a w
  | o :: os, a, w => o.wp P a w (fun a' w' => phTail P Q os a' w') Q
theorem ph_tail {m : Nat} (hr : ∀ j, j < ops.size - m → Region.ready .any ops (phC ops.size (m + j)) = [m + j]) (he : Region.ready .any ops (phC ops.size ops.size) = []) (hm : m ≤ ops.size)
    (hg : ∀ j o, j < ops.size - m → ops[m + j]? = some o → o.guard = none) : ∀ (n j fuel : Nat) (listed : Array Bool) (a : Act) (w : World), n + j = ops.size - m → n ≤ fuel → listed.size = ops.size → (∀ i, i < ops.size → listed.getD i false = decide (i < m + j)) → phTail P Q (ops.toList.drop (m + j)) a w →
      wpAny P .any ops Q fuel listed a w
  | 0, j, fuel, listed, a, w, hn, hf, hs, hl, h => by
    rw [ph_canon hs hl]
    rw [show m + j = ops.size by omega] at h ⊢
    rw [List.drop_eq_nil_of_le (by simp)] at h
    cases fuel with
    | zero => exact ⟨he, h⟩
    | succ fuel => exact ⟨fun _ => h, fun i hi => by rw [he] at hi; cases hi⟩
  | n + 1, j, 0, listed, a, w, hn, hf, hs, hl, h => by omega
  | n + 1, j, fuel + 1, listed, a, w, hn, hf, hs, hl, h => by
    have hj : j < ops.size - m := by omega
    have hlt : m + j < ops.size := by omega
    have hrj := hr j hj
    rw [← ph_canon hs hl] at hrj
    refine ⟨fun h0 => (by rw [hrj] at h0; cases h0), fun i hi => ?_⟩
    rw [hrj] at hi
    obtain rfl := List.mem_singleton.1 hi
    have hd : ops.toList.drop (m + j) = ops[m + j] :: ops.toList.drop (m + (j + 1)) := by
      rw [List.drop_eq_getElem_cons (by simpa using hlt)]; simp [Nat.add_assoc]
    rw [hd] at h
    have ho : ops[m + j]? = some ops[m + j] := Array.getElem?_eq_getElem hlt
    unfold wpOp
    simp only [ho]
    rw [if_pos (by unfold Region.wanted; rw [hg j _ hj ho])]
    refine .inl (Oper.wp_mono (fun a' w' h' => ?_) h)
    refine ph_tail hr he hm hg n (j + 1) fuel _ a' w' (by omega) (by omega) (by simpa using hs) (fun i hi => ?_) h'
    by_cases e : m + j = i
    · subst e
      simp [Array.getD_eq_getD_getElem?, hs, hi]
    · have := hl i hi
      simp only [Array.getD_eq_getD_getElem?, Array.getElem?_setIfInBounds, if_neg e] at this ⊢
      rw [this]
      by_cases c : i < m + j
      · simp [c, show i < m + (j + 1) by omega]
      · simp [c, show ¬ i < m + (j + 1) by omega]
theorem ph_any {m : Nat} {ds : List Nat} {a0 : Act} {S : World → Prop} {Φ : Nat → Value → World → Prop} (hb : phB ops m ds = true) (hsz : ∀ d ∈ ds, d < a0.tmps.size)
    (hΦ : ∀ k v w w', Φ k v w → Below w.heap.size w w' → Φ k v w') (hS : ∀ w w', S w → Below w.heap.size w w' → S w')
    (steps : PhSteps P ops Q a0 ds S Φ 0 (ops.toList.take m))
    (fin : ∀ v w, S w → (∀ k, k < m → Φ k (v k) w) → phTail P Q (ops.toList.drop m) (phAll a0 v 0 ds) w) :
    ∀ (fuel : Nat) (listed : Array Bool) (v : Nat → Value) (a : Act) (w : World), listed.size = ops.size → (List.range ops.size).countP (fun i => !listed.getD i false) ≤ fuel → PhDown ops listed → (∀ i, m ≤ i → listed.getD i false = false) →
      PhAt a0 ds v (fun j => listed.getD j false) a → S w → (∀ j, listed.getD j false = true → Φ j (v j) w) → wpAny P .any ops Q fuel listed a w := by
  unfold phB at hb
  simp only [Bool.and_eq_true, decide_eq_true_eq, List.all_eq_true, List.mem_range, beq_iff_eq] at hb
  obtain ⟨hm, hlen, hnd, hk, hcov, hr, he⟩ := hb
  have hg : ∀ j o, j < ops.size - m → ops[m + j]? = some o → o.guard = none := fun j o hj ho => by
    have := (hcov j hj).1
    rw [ho] at this
    simpa using this
  have hkk : ∀ k o, k < m → ops[k]? = some o → o.guard = none ∧ o.dst = ds[k]? ∧ ∀ e ∈ phDeps ops k, e < k := fun k o hkm ho => by
    have := hk k hkm
    rw [ho] at this
    simpa [Bool.and_eq_true, and_assoc] using this
  have end_ : ∀ (fuel : Nat) (listed : Array Bool) (v : Nat → Value) (a : Act) (w : World), listed.size = ops.size → (List.range ops.size).countP (fun i => !listed.getD i false) ≤ fuel → (∀ i, m ≤ i → listed.getD i false = false) → (∀ i, i < m → listed.getD i false = true) →
      PhAt a0 ds v (fun j => listed.getD j false) a → S w → (∀ j, listed.getD j false = true → Φ j (v j) w) → wpAny P .any ops Q fuel listed a w := by
    intro fuel listed v a w hs hf hlo hall hat hSw hv
    have hl : ∀ i, i < ops.size → listed.getD i false = decide (i < m + 0) := fun i _ => by
      by_cases c : i < m
      · rw [hall i c]; simp [c]
      · rw [hlo i (by omega)]; simp [c]
    have hcount : ops.size - m ≤ fuel := by
      refine Nat.le_trans ?_ hf
      have h1 : (List.range ops.size).countP (fun i => !listed.getD i false) = (List.range ops.size).countP (fun i => !decide (i < m)) := List.countP_congr fun i hi => by
        rw [hl i (List.mem_range.1 hi)]; simp
      rw [h1]
      have h2 : (List.range ops.size) = List.range m ++ (List.range (ops.size - m)).map (m + ·) := by
        rw [← List.range_add]; congr 1; omega
      rw [h2, List.countP_append, List.countP_map]
      have h3 : (List.range (ops.size - m)).countP ((fun i => !decide (i < m)) ∘ (m + ·)) = ops.size - m := by
        rw [List.countP_eq_length.2 (fun i _ => by simp)]; simp
      omega
    refine ph_tail hr he hm hg (ops.size - m) 0 fuel listed a w (by omega) hcount hs hl ?_
    rw [hat.all hnd hsz (fun k hk => hall k (by omega))]
    exact fin v w hSw (fun k hk => hv k (hall k hk))
  intro fuel
  induction fuel with
  | zero =>
    intro listed v a w hs hf hdn hlo hat hSw hv
    refine end_ 0 listed v a w hs hf hlo (fun i hi => ?_) hat hSw hv
    have h0 : (List.range ops.size).countP (fun i => !listed.getD i false) = 0 := by omega
    have := (List.countP_eq_zero.1 h0) i (List.mem_range.2 (by omega))
    simpa using this
  | succ fuel ih =>
    intro listed v a w hs hf hdn hlo hat hSw hv
    by_cases hall : ∀ i, i < m → listed.getD i false = true
    · exact end_ (fuel + 1) listed v a w hs hf hlo hall hat hSw hv
    have hex : ∃ i, i < m ∧ listed.getD i false = false := by
      refine Classical.byContradiction fun h => hall fun i hi => ?_
      cases hq : listed.getD i false
      · exact absurd ⟨i, hi, hq⟩ h
      · rfl
    have hready_ex : ∃ i, i ∈ Region.ready .any ops listed := by
      refine Classical.byContradiction fun h => ?_
      have : ∀ i, i < m → listed.getD i false = true := by
        intro i
        induction i using Nat.strongRecOn with
        | _ i ihi =>
          intro him
          cases hq : listed.getD i false
          · exfalso
            have hil : i < ops.size := by omega
            refine h ⟨i, mem_ready.2 ⟨?_, ops[i], Array.getElem?_eq_getElem hil, fun e he hb' => ?_⟩⟩
            · have hi' : i < listed.size := by omega
              simpa [hi'] using hq
            · have hlt := (hkk i _ him (Array.getElem?_eq_getElem hil)).2.2 e.on (by
                unfold phDeps
                rw [Array.getElem?_eq_getElem hil]
                simp only [Option.map_some, Option.getD_some, List.mem_map, List.mem_filter, Array.mem_toList_iff]
                exact ⟨e, ⟨he, hb'⟩, rfl⟩)
              have h1 := ihi e.on hlt (by omega)
              have hi' : e.on < listed.size := by omega
              simpa [hi'] using h1
          · rfl
      exact hall this
    refine ⟨fun h0 => (by obtain ⟨i, hi⟩ := hready_ex; rw [h0] at hi; cases hi), fun i hi => ?_⟩
    obtain ⟨h1, o, ho, hafter⟩ := mem_ready.1 hi
    have hil : i < ops.size := (Array.getElem?_eq_some_iff.1 ho).1
    have his : i < listed.size := by omega
    have h1' : listed.getD i false = false := by simpa [his] using h1
    have hafter' : ∀ e ∈ o.after, Region.binds .any e = true → listed.getD e.on false = true := fun e he hb' => by
      have := hafter e he hb'
      rcases Nat.lt_or_ge e.on listed.size with h' | h'
      · simpa [h'] using this
      · simp [Array.getElem?_eq_none h'] at this
    have him : i < m := by
      refine Classical.byContradiction fun hge => ?_
      obtain ⟨k, hkm, hkf⟩ := hex
      have hc := (hcov (i - m) (by omega)).2 k hkm
      rw [show m + (i - m) = i by omega] at hc
      have hin : k ∈ phGrow ops m (phDeps ops i) := by simpa using hc
      have := ph_grow hdn m (phDeps ops i) (fun e he => by
        obtain ⟨o', ho', x, hx, hb', rfl⟩ := ph_deps he
        rw [ho] at ho'
        cases ho'
        exact hafter' x hx hb') k hin
      rw [hkf] at this
      cases this
    obtain ⟨hgd, hdst, _⟩ := hkk i o him ho
    have hstep := steps.at (j := i) (o := o) (by rw [List.getElem?_take, if_pos him, Array.getElem?_toList]; exact ho)
    rw [Nat.zero_add] at hstep
    unfold wpOp
    simp only [ho]
    rw [if_pos (by unfold Region.wanted; rw [hgd])]
    refine .inl (hstep v _ a w hat hSw hv hafter' _ (fun x w' hx hbel => ?_))
    obtain ⟨d, hd⟩ : ∃ d, ds[i]? = some d := ⟨_, List.getElem?_eq_getElem (by omega)⟩
    rw [hdst, hd]
    have hset : ∀ j, (listed.setIfInBounds i true).getD j false = (j == i || listed.getD j false) := fun j => by
      by_cases e : i = j
      · subst e; simp [his]
      · have e' : (j == i) = false := by simpa using fun q => e q.symm
        simp [Array.getD_eq_getD_getElem?, e, e']
    refine ih _ (phU v i x) _ w' (by simpa using hs) ?_ ?_ ?_ ?_ (hS _ _ hSw hbel) ?_
    · have hlt : (List.range ops.size).countP (fun j => !(listed.setIfInBounds i true).getD j false) < (List.range ops.size).countP (fun j => !listed.getD j false) := by
        refine ph_count (x := i) (fun y _ hy => ?_) (List.mem_range.2 hil) (by rw [h1']; rfl) (by rw [hset]; simp)
        rw [hset] at hy
        simp only [Bool.not_or, Bool.and_eq_true] at hy
        exact hy.2
      omega
    · intro k o' ho' hlk e he hb'
      rw [hset] at hlk ⊢
      by_cases c : k = i
      · subst c
        rw [ho] at ho'
        cases ho'
        rw [hafter' e he hb']; simp
      · have c' : (k == i) = false := by simpa using c
        rw [c', Bool.false_or] at hlk
        rw [hdn k o' ho' hlk e he hb']; simp
    · intro k hkm
      rw [hset, hlo k hkm]
      have : (k == i) = false := by simp; omega
      rw [this]; rfl
    · have := hat.put hnd hd (hsz d (List.mem_of_getElem? hd)) h1' x
      have e : (fun j => (listed.setIfInBounds i true).getD j false) = fun j => j == i || listed.getD j false := funext hset
      rw [e]
      exact this
    · intro j hj
      rw [hset] at hj
      by_cases c : j = i
      · subst c; rw [phU_at]; exact hx
      · have c' : (j == i) = false := by simpa using c
        rw [c', Bool.false_or] at hj
        rw [phU_ne c]
        exact hΦ _ _ _ _ (hv j hj) hbel
/-- The region. -/
theorem wp_region_phi (m : Nat) (ds : List Nat) (S : World → Prop) (Φ : Nat → Value → World → Prop) {id : Nat} {a : Act} {w : World} (hm : P.follows .mixedOrders = true) (hb : phB ops m ds = true) (hsz : (ds.all fun d => decide (d < a.tmps.size)) = true)
    (hΦ : ∀ k v w w', Φ k v w → Below w.heap.size w w' → Φ k v w') (hS : ∀ w w', S w → Below w.heap.size w w' → S w') (h0 : S w.drew)
    (steps : PhSteps P ops Q a ds S Φ 0 (ops.toList.take m))
    (fin : ∀ v w, S w → (∀ k, k < m → Φ k (v k) w) → phTail P Q (ops.toList.drop m) (phAll a v 0 ds) w) : (Code.region id ops true).wp P Q a w := by
  refine wp_region_any hm (ph_any hb (fun d hd => by simpa using List.all_eq_true.1 hsz d hd) hΦ hS steps fin ops.size _ (fun _ => undef) a _ (by simp) ?_ ?_ ?_ ?_ h0 ?_)
  · have := List.countP_le_length (l := List.range ops.size) (p := fun i => !(Array.replicate ops.size false).getD i false)
    simpa using this
  · intro k o _ hk
    simp [Array.getD_eq_getD_getElem?, Array.getElem?_replicate] at hk
    split at hk <;> simp at hk
  · intro i _
    by_cases h : i < ops.size <;> simp [Array.getD_eq_getD_getElem?, h]
  · have e : (fun j => (Array.replicate ops.size false).getD j false) = fun _ => false := by
      funext j
      by_cases h : j < ops.size <;> simp [Array.getD_eq_getD_getElem?, h]
    rw [e]
    exact PhAt.start a ds _
  · intro j hj
    by_cases h : j < ops.size <;> simp [Array.getD_eq_getD_getElem?, h] at hj
/-- What a value is, told so that it outlives what is made later. -/
abbrev HerP := { p : Value → World → Prop // ∀ v w w', p v w → Below w.heap.size w w' → p v w' }
def herL (L : List HerP) (k : Nat) (v : Value) (w : World) : Prop := match L[k]? with
  | some p => p.1 v w
  | none => True
theorem herL_keep (L : List HerP) : ∀ k v w w', herL L k v w → Below w.heap.size w w' → herL L k v w' := fun k v w w' h hb => by
  unfold herL at h ⊢
  cases e : L[k]? with
  | none => trivial
  | some p => rw [e] at h; exact p.2 v w w' h hb
def isV (y : Value) : HerP := ⟨fun v _ => v = y, fun _ _ _ h _ => h⟩
theorem ph_box_keep {w w' : World} {g : Nat} {O : Obj} (h : w.heap[g]? = some O) (hb : Below w.heap.size w w') : w'.heap[g]? = some O := (hb.block g (Array.getElem?_eq_some_iff.1 h).1).trans h
/-- A new box at or above B. -/
def isBox (B : Nat) (O : Obj) : HerP := ⟨fun v w => ∃ g, v = .pointer (some ⟨g, 0, none⟩) ∧ B ≤ g ∧ w.heap[g]? = some O, fun _ _ _ ⟨g, h1, h2, h3⟩ hb => ⟨g, h1, h2, ph_box_keep h3 hb⟩⟩
theorem ph_haf {o : Oper} {f : Nat → Bool} (haf : ∀ e ∈ o.after, Region.binds .any e = true → f e.on = true) (j : Nat) (hb : (o.after.any fun e => Region.binds .any e && e.on == j) = true) : f j = true := by
  obtain ⟨i, hi, h⟩ := Array.any_eq_true.1 hb
  simp only [Bool.and_eq_true, beq_iff_eq] at h
  rw [← h.2]
  exact haf _ (Array.getElem_mem hi) h.1
theorem ph_below_S {B : Nat} {W : World} (hB : B ≤ W.heap.size) : ∀ X Y, Below W.heap.size W X → Below X.heap.size X Y → Below W.heap.size W Y := fun X Y h hb => h.trans (hb.mono h.size)
end
end Go.Proofs.Ytgbnoaclklbjbaa
