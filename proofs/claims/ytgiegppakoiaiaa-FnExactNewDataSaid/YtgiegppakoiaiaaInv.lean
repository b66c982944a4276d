/- A region whose operations each keep an invariant, in whatever order they come up. Over any program. -/
import Derived.StillTail
import Derived.OwnWalk
import Derived.Below
import Derived.OrdersHeld
import Derived.Deep.RegionHeld3
namespace Go.Proofs.Ytgiegppakoiaiaa
section
variable {P : Program} {ops : Array Oper} {Q : Exit → Act → World → Prop} {I : (Nat → Bool) → Act → World → Prop}
/-- Operation k keeps I; f tells which have been carried out. -/
def InvStep (P : Program) (Q : Exit → Act → World → Prop) (I : (Nat → Bool) → Act → World → Prop) (k : Nat) (o : Oper) : Prop :=
  ∀ (f : Nat → Bool) (a : Act) (w : World), I f a w → f k = false → (∀ e ∈ o.after, Region.binds .any e = true → f e.on = true) → ∀ K : Act → World → Prop, Shut (∀ a' w', I (fun j => j == k || f j) a' w' → K a' w') → o.wp P a w K Q
def InvSteps (P : Program) (Q : Exit → Act → World → Prop) (I : (Nat → Bool) → Act → World → Prop) : Nat → List Oper → Prop
  | _, [] => True
  | k, o :: os => InvStep P Q I k o ∧ InvSteps P Q I (k + 1) os
theorem InvSteps.at : ∀ {l : List Oper} {k j : Nat} {o : Oper}, InvSteps P Q I k l → l[j]? = some o → InvStep P Q I (k + j) o
  | [], _, _, _, _, h => by simp at h
  | x :: l, k, 0, o, h, e => by
    simp at e
    subst e
    exact h.1
  | x :: l, k, j + 1, o, h, e => by
    have := InvSteps.at (k := k + 1) (j := j) h.2 (by simpa using e)
    rwa [Nat.add_assoc, Nat.add_comm 1 j] at this
/-- No guard; each waits for earlier ones alone. -/
def invB (ops : Array Oper) : Bool := (List.range ops.size).all fun i => ((ops[i]?).map fun o => o.guard.isNone && o.after.all fun e => !Region.binds .any e || decide (e.on < i)).getD false
theorem invB_at (h : invB ops = true) {i : Nat} {o : Oper} (ho : ops[i]? = some o) : o.guard = none ∧ ∀ e ∈ o.after, Region.binds .any e = true → e.on < i := by
  unfold invB at h
  rw [List.all_eq_true] at h
  have := h i (List.mem_range.2 (Array.getElem?_eq_some_iff.1 ho).1)
  rw [ho] at this
  simp only [Option.map_some, Option.getD_some, Bool.and_eq_true, Option.isNone_iff_eq_none, Array.all_eq_true_iff_forall_mem, Bool.or_eq_true, Bool.not_eq_true', decide_eq_true_eq] at this
  refine ⟨this.1, fun e he hb => ?_⟩
  rcases this.2 e he with h | h
  · rw [hb] at h; cases h
  · exact h
theorem inv_ended (hb : invB ops = true) {listed : Array Bool} (hs : listed.size = ops.size) (hr : Region.ready .any ops listed = []) : ∀ i, i < ops.size → listed.getD i false = true := by
  intro i
  induction i using Nat.strongRecOn with
  | _ i ih =>
    intro hi
    cases hl : listed.getD i false
    · exfalso
      have hi' : i < listed.size := by omega
      have : i ∈ Region.ready .any ops listed := mem_ready.2 ⟨by simpa [hi'] using hl, ops[i], Array.getElem?_eq_getElem hi, fun e he hb' => ih e.on ((invB_at hb (Array.getElem?_eq_getElem hi)).2 e he hb') (by have := (invB_at hb (Array.getElem?_eq_getElem hi)).2 e he hb'; omega)⟩
      rw [hr] at this
      cases this
    · rfl
def left (n : Nat) (listed : Array Bool) : Nat := (List.range n).countP fun i => !listed.getD i false
theorem countP_lt {α : Type} {p q : α → Bool} : ∀ {l : List α} {x : α}, (∀ y ∈ l, q y = true → p y = true) → x ∈ l → p x = true → q x = false → l.countP q < l.countP p
  | a :: l, x, h, hx, hp, hq => by
    have hle : l.countP q ≤ l.countP p := List.countP_mono_left fun y hy => h y (List.mem_cons_of_mem _ hy)
    rcases List.mem_cons.1 hx with rfl | hx
    · rw [List.countP_cons, List.countP_cons, hp, hq]
      simp
      omega
    · have := countP_lt (fun y hy => h y (List.mem_cons_of_mem _ hy)) hx hp hq
      rw [List.countP_cons, List.countP_cons]
      by_cases hqa : q a = true
      · rw [hqa, h a (List.mem_cons_self ..) hqa]; omega
      · have : q a = false := by simpa using hqa
        rw [this]
        simp only [Bool.false_eq_true, if_false, Nat.add_zero]
        omega
theorem inv_any (hb : invB ops = true) (hs : InvSteps P Q I 0 ops.toList) (hf : ∀ f a w, I f a w → (∀ i, i < ops.size → f i = true) → Q .normal a w) :
    ∀ (fuel : Nat) (listed : Array Bool) (a : Act) (w : World), listed.size = ops.size → left ops.size listed ≤ fuel → I (fun j => listed.getD j false) a w → wpAny P .any ops Q fuel listed a w
  | 0, listed, a, w, hsz, hl, hi => by
    have hr : Region.ready .any ops listed = [] := by
      cases h : Region.ready .any ops listed with
      | nil => rfl
      | cons j t =>
        exfalso
        have hj : j ∈ Region.ready .any ops listed := by rw [h]; exact List.mem_cons_self ..
        obtain ⟨h1, o, ho, _⟩ := mem_ready.1 hj
        have hjl : j < ops.size := (Array.getElem?_eq_some_iff.1 ho).1
        have : 0 < left ops.size listed := List.countP_pos_iff.2 ⟨j, List.mem_range.2 hjl, by
          have hj' : j < listed.size := by omega
          simp [hj'] at h1 ⊢
          exact h1⟩
        omega
    exact ⟨hr, hf _ _ _ hi (inv_ended hb hsz hr)⟩
  | fuel + 1, listed, a, w, hsz, hl, hi => by
    refine ⟨fun hr => hf _ _ _ hi (inv_ended hb hsz hr), fun j hj => ?_⟩
    obtain ⟨h1, o, ho, hall⟩ := mem_ready.1 hj
    have hjl : j < ops.size := (Array.getElem?_eq_some_iff.1 ho).1
    have hjs : j < listed.size := by omega
    have hstep := hs.at (j := j) (o := o) (by rw [Array.getElem?_toList]; exact ho)
    rw [Nat.zero_add] at hstep
    unfold wpOp
    simp only [ho]
    rw [if_pos (by unfold Region.wanted; rw [(invB_at hb ho).1])]
    refine .inl (hstep _ _ _ hi (by simp [hjs] at h1 ⊢; exact h1) hall _ (fun a' w' h => ?_))
    refine inv_any hb hs hf fuel _ a' w' (by simpa using hsz) ?_ ?_
    · have : left ops.size (listed.setIfInBounds j true) < left ops.size listed := countP_lt (x := j) (fun y _ hy => by
        by_cases e : j = y
        · subst e; simp [hjs] at hy
        · simpa [Array.getD_eq_getD_getElem?, Array.getElem?_setIfInBounds, e] using hy) (List.mem_range.2 hjl) (by simp [hjs] at h1 ⊢; exact h1) (by simp [hjs])
      omega
    · have e : (fun i => (listed.setIfInBounds j true).getD i false) = fun i => i == j || listed.getD i false := by
        funext i
        by_cases e : j = i
        · subst e; simp [hjs]
        · have e' : (i == j) = false := by simpa using fun q => e q.symm
          simp [Array.getD_eq_getD_getElem?, e, e']
      rw [e]
      exact h
/-- The region. -/
theorem wp_region_inv (I : (Nat → Bool) → Act → World → Prop) {id : Nat} {a : Act} {w : World} (hm : P.follows .mixedOrders = true) (hb : invB ops = true) (h0 : I (fun _ => false) a w.drew) (hs : InvSteps P Q I 0 ops.toList)
    (hf : ∀ f a w, I f a w → (∀ i, i < ops.size → f i = true) → Q .normal a w) : (Code.region id ops true).wp P Q a w := by
  refine wp_region_any hm (inv_any hb hs hf ops.size _ _ _ (by simp) ?_ ?_)
  · have := List.countP_le_length (l := List.range ops.size) (p := fun i => !(Array.replicate ops.size false).getD i false)
    simpa [left] using this
  · have e : (fun j => (Array.replicate ops.size false).getD j false) = fun _ => false := by
      funext j
      by_cases hj : j < ops.size <;> simp [Array.getD_eq_getD_getElem?, hj]
    rw [e]
    exact h0
theorem wp_region_inv' (J : Act → (Nat → Bool) → Act → World → Prop) {id : Nat} {a : Act} {w : World} (hm : P.follows .mixedOrders = true) (hb : invB ops = true) (h0 : J a (fun _ => false) a w.drew) (hs : InvSteps P Q (J a) 0 ops.toList)
    (hf : ∀ f a' w, J a f a' w → (∀ i, i < ops.size → f i = true) → Q .normal a' w) : (Code.region id ops true).wp P Q a w := wp_region_inv (J a) hm hb h0 hs hf
theorem InvSteps.cons {k : Nat} {o : Oper} {os : List Oper} (h : InvStep P Q I k o) (g : InvSteps P Q I (k + 1) os) : InvSteps P Q I k (o :: os) := ⟨h, g⟩
theorem InvSteps.nil {k : Nat} : InvSteps P Q I k [] := trivial
end
theorem haf_all {o : Oper} {f : Nat → Bool} (haf : ∀ e ∈ o.after, Region.binds .any e = true → f e.on = true) (ks : List Nat) (hb : (ks.all fun k => o.after.any fun e => Region.binds .any e && e.on == k) = true) : ∀ k, k ∈ ks → f k = true := by
  intro k hk
  have := List.all_eq_true.1 hb k hk
  obtain ⟨i, hi, h⟩ := Array.any_eq_true.1 this
  simp only [Bool.and_eq_true, beq_iff_eq] at h
  rw [← h.2]
  exact haf _ (Array.getElem_mem hi) h.1
/-- What a row is to hold. -/
structure RowSpec where
  e : TypeId
  size : Nat
  n : Nat
  xs : List Value
/-- The rows made so far, each in its own block; v k is what operation k yields. -/
structure GI (B : Nat) (spec : Nat → Option RowSpec) (v : Nat → Value) (f : Nat → Bool) (w : World) : Prop where
  row : ∀ k s, spec k = some s → f k = true → w.ownsRow B s.e s.size (v k) s.n s.xs
  dis : ∀ j k s t, spec j = some s → spec k = some t → j ≠ k → f j = true → f k = true → (v j).ownBlock = none ∨ (v j).ownBlock ≠ (v k).ownBlock
def upd (v : Nat → Value) (k : Nat) (x : Value) : Nat → Value := fun j => if j = k then x else v j
theorem upd_at (v : Nat → Value) (k : Nat) (x : Value) : upd v k x k = x := by simp [upd]
theorem upd_ne {v : Nat → Value} {k j : Nat} {x : Value} (h : j ≠ k) : upd v k x j = v j := by simp [upd, h]
theorem GI.start (B : Nat) (spec : Nat → Option RowSpec) (v : Nat → Value) (w : World) : GI B spec v (fun _ => false) w := ⟨fun _ _ _ h => by simp at h, fun _ _ _ _ _ _ _ h => by simp at h⟩
theorem inv_own {w w' : World} {B size n : Nat} {e : TypeId} {v : Value} {xs : List Value} (h : w.ownsRow B e size v n xs) (hb : Go.RowKit.Below w.heap.size w w') : w'.ownsRow B e size v n xs :=
  h.kept (row := none) ⟨hb.os, hb.tape, hb.output, hb.size, fun k hk _ => hb.block k hk⟩ (by cases v.ownBlock <;> simp)
theorem GI.other {B k : Nat} {spec : Nat → Option RowSpec} {v : Nat → Value} {f : Nat → Bool} {w w' : World} {x : Value} (g : GI B spec v f w) (hb : Go.RowKit.Below w.heap.size w w') (hk : spec k = none) : GI B spec (upd v k x) (fun j => j == k || f j) w' := by
  have hne : ∀ j s, spec j = some s → j ≠ k := fun j s h e => by rw [e, hk] at h; cases h
  have hf : ∀ j s, spec j = some s → (j == k || f j) = true → f j = true := fun j s h q => by
    have : (j == k) = false := by simpa using hne j s h
    simpa [this] using q
  refine ⟨fun j s h q => ?_, fun j i s t h1 h2 h3 q1 q2 => ?_⟩
  · rw [upd_ne (hne j s h)]
    exact inv_own (g.row j s h (hf j s h q)) hb
  · rw [upd_ne (hne j s h1), upd_ne (hne i t h2)]
    exact g.dis j i s t h1 h2 h3 (hf j s h1 q1) (hf i t h2 q2)
theorem GI.make {B k : Nat} {spec : Nat → Option RowSpec} {v : Nat → Value} {f : Nat → Bool} {w w' : World} {x : Value} {s : RowSpec} (g : GI B spec v f w) (hb : Go.RowKit.Below w.heap.size w w') (hk : spec k = some s) (hB : B ≤ w.heap.size)
    (ho : w'.ownsRow w.heap.size s.e s.size x s.n s.xs) : GI B spec (upd v k x) (fun j => j == k || f j) w' := by
  have hbase : w'.ownsRow B s.e s.size x s.n s.xs := by
    refine ⟨ho.1, ?_⟩
    rcases ho.2 with h0 | ⟨g, cap, cur, h1, h2, h3⟩
    · exact .inl h0
    · exact .inr ⟨g, cap, cur, h1, Nat.le_trans hB h2, h3⟩
  have hf : ∀ j, j ≠ k → (j == k || f j) = true → f j = true := fun j h q => by
    have : (j == k) = false := by simpa using h
    simpa [this] using q
  have hold : ∀ j t, j ≠ k → spec j = some t → f j = true → x.ownBlock ≠ (v j).ownBlock ∨ (v j).ownBlock = none := fun j t hj hs q => by
    cases hv : (v j).ownBlock with
    | none => exact .inr rfl
    | some b =>
      refine .inl fun e => ?_
      have h1 := ((g.row j t hs q).lt b hv).2
      have h2 := (ho.lt b e).1
      omega
  refine ⟨fun j t h q => ?_, fun j i t u h1 h2 h3 q1 q2 => ?_⟩
  · by_cases e : j = k
    · subst e
      rw [hk] at h
      cases h
      rw [upd_at]
      exact hbase
    · rw [upd_ne e]
      exact inv_own (g.row j t h (hf j e q)) hb
  · by_cases e : j = k
    · subst e
      rw [upd_at, upd_ne (Ne.symm h3)]
      rcases hold i u (Ne.symm h3) h2 (hf i (Ne.symm h3) q2) with h | h
      · exact .inr h
      · cases hx : x.ownBlock with
        | none => exact .inl rfl
        | some b => exact .inr (by rw [h]; simp)
    · by_cases e' : i = k
      · subst e'
        rw [upd_at, upd_ne e]
        rcases hold j t e h1 (hf j e q1) with h | h
        · exact .inr (Ne.symm h)
        · exact .inl h
      · rw [upd_ne e, upd_ne e']
        exact g.dis j i t u h1 h2 h3 (hf j e q1) (hf i e' q2)
/-- make, as one operation of a region. -/
theorem wp_make_full {P : Program} {w : World} {o : Oper} {a : Act} {K : Act → World → Prop} {Q : Exit → Act → World → Prop} (l c : Operand) (t : TypeId) (hop : o.op = Op.makeSlice t l c)
    (base : Nat) (e : TypeId) (i : TypeInfo) (z : Value) (size : Nat) (h1 : P.underlying t = some (.slice e)) (h2 : P.info? e = some i) (h3 : i.zero = some z) (h4 : i.size = size)
    (kl kc : IntKind) (L C : Int) (n : Nat) (hl : a.eval l = .int kl L) (hc : a.eval c = .int kc C) (hL : L = (n : Int)) (hC : C = (n : Int)) (b2 : i.bytes * n ≤ 281474976710656) (b3 : n ≤ maxLen) (b4 : base ≤ w.heap.size)
    (hK : ∀ w', w'.ownsRow base e size (.slice (some ⟨w.heap.size, 0, none⟩) n n) n (madeCells z.cells (n * size)).toList → w.grownBy w' none → K (a.put o.dst (.slice (some ⟨w.heap.size, 0, none⟩) n n)) w') : o.wp P a w K Q := by
  obtain ⟨w', hrun, r1, r2⟩ := run_make_full (P := P) w base t e i z size h1 h2 h3 h4 kl kc n b2 b3 b4
  subst hL
  subst hC
  unfold Oper.wp
  simp [execOp, hop, hl, hc, hrun, Result.andThen]
  exact hK w' r1 r2
end Go.Proofs.Ytgiegppakoiaiaa
