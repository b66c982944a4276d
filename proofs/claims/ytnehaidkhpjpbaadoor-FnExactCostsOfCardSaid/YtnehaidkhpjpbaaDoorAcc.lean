/- Accepted code keeps the pass over it within bounds: what is open, what is called. -/
import Derived.Test.YtnehaidkhpjpbaaDoorRegs
import Derived.Test.YtnehaidkhpjpbaaDoorWalk12
import Derived.Test.YtnehaidkhpjpbaaDoorCode
import Derived.Test.YtnehaidkhpjpbaaDoorOkV
namespace Go.Proofs.YtnehaidkhpjpbaaDoor
set_option linter.unusedVariables false
/-- What reading x behind os needs. -/
def StepOK (known : List SM) (os : List RG) (x : Ins) : Prop := ∃ (b : List RG) (top : RG) (k : Nat), os = b ++ [top] ∧ b.length ≤ 4 ∧ (∀ r ∈ b ++ [top], r.good) ∧ x.1 = k ∧ 1 ≤ k ∧ k ≤ 26 ∧ (k = 24 → 1 ≤ x.2 ∧ x.2 ≤ 20) ∧ (k = 23 → b ≠ []) ∧ (k = 26 → 0 ≤ x.2 ∧ x.2 < known.length)
theorem acc_run {known : List SM} (hk : ∀ a ∈ known, a.ok) {ks : List Int} : ∀ (xs : List Ins) (os : List RG) (i : Nat) (w : VW), os.length = w.opn.length + 1 → (∀ r ∈ os, r.good) → w.pre → okAll xs = true → (vRun ks known.length xs i w).2.1 = 0 →
    (∀ j, j < xs.length → StepOK known (rgRun known os (xs.take j)) (xs.getD j (0, 0))) ∧ (rgRun known os xs).length = (vRun ks known.length xs i w).1.opn.length + 1 ∧ ∀ r ∈ rgRun known os xs, r.good
  | [], os, i, w, hl, hg, hp, _, _ => ⟨by simp, hl, hg⟩
  | x :: xs, os, i, w, hl, hg, hp, ha, hr => by
    rw [vRun] at hr
    by_cases hs : (vStep ks known.length x i w).2 = 0
    · rw [if_pos hs] at hr
      unfold okAll at ha
      rw [List.all_cons, Bool.and_eq_true] at ha
      obtain ⟨hx, ha'⟩ := ha
      rcases snoc_cases os with rfl | ⟨b, top, rfl⟩
      · simp at hl
      have hbl : b.length = w.opn.length := by simpa using hl
      obtain ⟨n1, n2, n3⟩ := rg_len (known := known) (top := top) hbl hs
      obtain ⟨k, hk1, h1, h2, h3, h4⟩ := okB_nat hx
      have h24 : k = 24 → 1 ≤ x.2 ∧ x.2 ≤ 20 := fun e => by subst e; exact ⟨h3, h4⟩
      have h4' := hp.o4
      have hgood : ∀ r ∈ rgStep known b top x, r.good := rgStep_good hk (fun r hr => hg r (List.mem_append_left _ hr)) (hg top (by simp)) (fun e => h24 (by omega))
      obtain ⟨i1, i2, i3⟩ := acc_run hk xs (rgStep known b top x) (i + 1) _ n1 hgood (pre_step hp hs) ha' hr
      rw [vRun, if_pos hs, rgRun_cons, rgRead_snoc]
      refine ⟨fun j hj => ?_, i2, i3⟩
      cases j with
      | zero =>
        refine ⟨b, top, k, rfl, by omega, hg, hk1, h1, h2, h24, fun e hb => ?_, fun e => ?_⟩
        · have := n2 (by omega)
          rw [hb] at this
          simp at this
        · have := n3 (by omega)
          subst e
          exact ⟨h3, this⟩
      | succ j =>
        have := i1 j (by simpa using hj)
        simpa [rgRun_cons, rgRead_snoc] using this
    · rw [if_neg hs] at hr
      exact absurd hr hs
/-- Accepted code, from its start. -/
theorem acc_all {known : List SM} (hk : ∀ a ∈ known, a.ok) {ks : List Int} {zs : List Ins} (ha : okAll zs = true) (hv : (vVer zs ks known.length).2 = 0) :
    (∀ j, j < zs.length → StepOK known (rgRun known [rgNew (0, 0)] (zs.take j)) (zs.getD j (0, 0))) ∧ ∃ r : RG, rgRun known [rgNew (0, 0)] zs = [r] ∧ r.own = codeCost known zs ∧ r.own.ok := by
  have h1 := vVer_ok hv
  obtain ⟨i1, i2, i3⟩ := acc_run hk (ks := ks) zs [rgNew (0, 0)] 0 ⟨[], []⟩ rfl (by intro r hr; rw [List.mem_singleton.1 hr]; exact rgNew_good (by intro e; simp at e)) pre_start ha h1.1
  have ho : (vRun ks known.length zs 0 ⟨[], []⟩).1.opn = [] := by
    unfold vVer at hv
    dsimp only at hv
    rw [if_neg (by rw [h1.1]; simp)] at hv
    split at hv
    · exact absurd hv (by simp)
    · rename_i e
      exact List.getLast?_eq_none_iff.1 e
  rw [ho] at i2
  match hm : rgRun known [rgNew (0, 0)] zs, i2 with
  | [r], _ =>
    refine ⟨i1, r, rfl, ?_, (i3 r (by rw [hm]; simp)).1⟩
    unfold codeCost
    rw [hm]
    rfl
theorem codeCost_ok {known : List SM} (hk : ∀ a ∈ known, a.ok) {ks : List Int} {zs : List Ins} (ha : okAll zs = true) (hv : (vVer zs ks known.length).2 = 0) : (codeCost known zs).ok := by
  obtain ⟨_, r, _, e, h⟩ := acc_all hk ha hv
  rw [← e]
  exact h
end Go.Proofs.YtnehaidkhpjpbaaDoor
