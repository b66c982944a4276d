/- A whole step of impl's verifier; code gone through. -/
import Derived.Test.YtbbhoaljldgjeaaDoorWalk11
import Derived.Test.YtbbhoaljldgjeaaDoorInsRow
namespace Go.Proofs.YtbbhoaljldgjeaaDoor
open Go.ChangeShapes Go.WideShapes Go.ChangeAt Go.RowKit
set_option linter.unusedVariables false
theorem pfx_take {s t : List UInt8} {k : Nat} (h : s <+: t) (hk : s.length ≤ k) : s <+: t.take k := by
  obtain ⟨u, rfl⟩ := h
  rw [List.take_append]
  rw [List.take_of_length_le hk]
  exact List.prefix_append _ _
theorem vTake_le {st tk : List UInt8} {f : Nat} (h : (vTake st tk f).2 = 0) : (vTake st tk f).1 = st.take (st.length - tk.length) ∧ f + tk.length ≤ st.length := by
  unfold vTake at *
  split at h
  · exact absurd h (by simp)
  · split at h
    · rename_i h1 h2
      rw [if_neg h1, if_pos h2]
      exact ⟨rfl, by omega⟩
    · exact absurd h (by simp)
theorem floor_ge {v : VW} (hp : v.pre) : ∀ o ∈ v.opn, o.stk.length ≤ v.floor := by
  obtain ⟨st, opn⟩ := v
  rcases opn_cases opn with rfl | ⟨os, o, rfl⟩
  · simp
  · intro q hq
    rw [floor_snoc]
    have := List.pairwise_append.1 hp.asc
    simp only [List.mem_append, List.mem_singleton] at hq
    rcases hq with hq | rfl
    · exact this.2.2 q hq o (by simp)
    · exact Nat.le_refl _
/-- Behind what is taken and put, what lies below the open structures is still there. -/
theorem pre_taken {v : VW} (hp : v.pre) {tk pt : List UInt8} (h : (vTake v.stk tk v.floor).2 = 0) (h8 : (vTake v.stk tk v.floor).1.length + pt.length ≤ 8) : VW.pre ⟨(vTake v.stk tk v.floor).1 ++ pt, v.opn⟩ := by
  obtain ⟨e, hl⟩ := vTake_le h
  rw [e] at h8 ⊢
  refine ⟨fun o ho => ?_, hp.asc, by simp only [List.length_append]; omega, hp.o4⟩
  have h1 := floor_ge hp o ho
  exact (pfx_take (hp.pfx o ho) (by omega)).trans (List.prefix_append _ _)
theorem pre_taken0 {v : VW} (hp : v.pre) {tk : List UInt8} (h : (vTake v.stk tk v.floor).2 = 0) : VW.pre ⟨(vTake v.stk tk v.floor).1, v.opn⟩ := by
  have := pre_taken hp (pt := []) h (by rw [(vTake_le h).1]; have := hp.s8; simp; omega)
  simpa using this
theorem pre_nest {v : VW} (hp : v.pre) {x : Ins} {i : Int} (h : (NestOut x i v).2 = 0) : (NestOut x i v).1.pre := by
  unfold NestOut at *
  split at h
  · rename_i h0
    rw [if_pos h0]
    obtain ⟨st, opn⟩ := v
    unfold vNest at *
    split at h
    · rename_i h1
      rw [if_pos h1]
      split at h
      · exact absurd h (by simp)
      · rename_i h2
        rw [if_neg h2]
        have h4 := hp.o4
        refine ⟨fun o ho => ?_, ?_, hp.s8, by simp only [List.length_append, List.length_singleton]; simp only at h4 h2; omega⟩
        · simp only [List.mem_append, List.mem_singleton] at ho
          rcases ho with ho | rfl
          · exact hp.pfx o ho
          · exact List.prefix_rfl
        · refine List.pairwise_append.2 ⟨hp.asc, by simp, fun a ha b hb => ?_⟩
          simp only [List.mem_singleton] at hb
          subst hb
          exact (hp.pfx a ha).length_le
    · rename_i h1
      rw [if_neg h1]
      rcases opn_cases opn with rfl | ⟨os, o, rfl⟩
      · exact absurd h (by simp)
      · simp only [last_snoc, drop_snoc] at h ⊢
        have hasc := List.pairwise_append.1 hp.asc
        have h4 := hp.o4
        simp only [List.length_append, List.length_singleton] at h4
        split at h
        · exact absurd h (by simp)
        · rename_i h2
          rw [if_neg h2]
          split at h
          · exact absurd h (by simp)
          · rename_i h3
            rw [if_neg h3]
            split at h
            · rename_i h5
              rw [if_pos h5]
              refine ⟨fun q hq => ?_, ?_, hp.s8, by simp only [List.length_append, List.length_singleton]; omega⟩
              · simp only [List.mem_append, List.mem_singleton] at hq
                rcases hq with hq | rfl
                · exact hp.pfx q (by simp [hq])
                · exact hp.pfx o (by simp)
              · exact List.pairwise_append.2 ⟨hasc.1, by simp, fun a ha b hb => by simp only [List.mem_singleton] at hb; subst hb; exact hasc.2.2 a ha o (by simp)⟩
            · rename_i h5
              rw [if_neg h5]
              exact ⟨fun q hq => hp.pfx q (by simp [hq]), hasc.1, hp.s8, by simp only; omega⟩
  · rename_i h0
    rw [if_neg h0]
    exact hp
/-- A step, in three parts. -/
theorem vStep_eq (ks : List Int) (r : Int) (x : Ins) (i : Int) (v : VW) : vStep ks r x i v =
    if vFind ks r x ≠ 0 then (v, vFind ks r x) else if (vTake v.stk (vSign ks x).1 v.floor).2 ≠ 0 then (v, (vTake v.stk (vSign ks x).1 v.floor).2)
    else if 8 < (vTake v.stk (vSign ks x).1 v.floor).1.length + (vSign ks x).2.length then (v, 7) else NestOut x i ⟨(vTake v.stk (vSign ks x).1 v.floor).1 ++ (vSign ks x).2, v.opn⟩ := by
  unfold vStep vFind NestOut
  by_cases h1 : (x.1 = 19 ∨ x.1 = 20) ∧ (ks.length : Int) ≤ x.2
  · rw [if_pos h1, if_pos h1, if_pos (by decide)]
  · rw [if_neg h1, if_neg h1]
    by_cases h2 : x.1 = 26 ∧ r ≤ x.2
    · rw [if_pos h2, if_pos h2, if_pos (by decide)]
    · rw [if_neg h2, if_neg h2, if_neg (show ¬ ((0 : Int) ≠ 0) by decide)]
theorem pre_step {ks : List Int} {r : Int} {x : Ins} {i : Int} {v : VW} (hp : v.pre) (h : (vStep ks r x i v).2 = 0) : (vStep ks r x i v).1.pre := by
  rw [vStep_eq] at *
  split at h
  · rename_i h1; exact absurd h h1
  · rename_i h1
    rw [if_neg h1]
    split at h
    · rename_i h2; exact absurd h h2
    · rename_i h2
      rw [if_neg h2]
      split at h
      · exact absurd h (by simp)
      · rename_i h3
        rw [if_neg h3]
        exact pre_nest (pre_taken hp (Classical.not_not.1 h2) (by omega)) h
end Go.Proofs.YtbbhoaljldgjeaaDoor
