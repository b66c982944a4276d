/- What a walk has open at a place: the structures that begin ahead of it and end behind it. -/
import Derived.Test.YtnehaidkhpjpbaaDoorFlatP
namespace Go.Proofs.YtnehaidkhpjpbaaDoor
set_option linter.unusedVariables false
/-- The state ahead of the n-th instruction. -/
def vAt (code : List Ins) (kinds : List Int) (r : Int) (n : Nat) : VW := (vRun kinds r (code.take n) 0 ⟨[], []⟩).1
theorem vAt_step {code : List Ins} {kinds : List Int} {r : Int} (h : (vRun kinds r code 0 ⟨[], []⟩).2.1 = 0) {n : Nat} (hn : n < code.length) :
    (vStep kinds r (code.getD n (0, 0)) n (vAt code kinds r n)).2 = 0 ∧ vAt code kinds r (n + 1) = (vStep kinds r (code.getD n (0, 0)) n (vAt code kinds r n)).1 := by
  have e : code.take (n + 1) = code.take n ++ [code.getD n (0, 0)] := by
    rw [List.take_add_one, List.getElem?_eq_getElem hn]
    simp [List.getD, hn]
  have h0 := vRun_prefix h n
  have h1 := vRun_prefix h (n + 1)
  have e2 := vRun_app kinds r (code.take n) [code.getD n (0, 0)] 0 ⟨[], []⟩
  rw [if_pos h0] at e2
  have hl : 0 + (code.take n).length = n := by simp; omega
  rw [hl] at e2
  unfold vAt
  rw [e, e2]
  rw [e, e2] at h1
  rw [vRun] at h1 ⊢
  by_cases g : (vStep kinds r (code.getD n (0, 0)) n (vRun kinds r (code.take n) 0 ⟨[], []⟩).1).2 = 0
  · rw [if_pos g]
    exact ⟨g, rfl⟩
  · rw [if_neg g] at h1
    exact absurd h1 g
/-- What a step does to what is open. -/
theorem vStep_opn {kinds : List Int} {r : Int} {x : Ins} {i : Int} {w : VW} (h : (vStep kinds r x i w).2 = 0) :
    ((x.1 = 21 ∨ x.1 = 24) ∧ ∃ o : VO, o.pos = i ∧ (vStep kinds r x i w).1.opn = w.opn ++ [o]) ∨
    (x.1 = 22 ∧ ∃ (os : List VO) (o o' : VO), w.opn = os ++ [o] ∧ o'.pos = o.pos ∧ (vStep kinds r x i w).1.opn = os ++ [o']) ∨
    (x.1 = 23 ∧ ∃ (os : List VO) (o : VO), w.opn = os ++ [o] ∧ (vStep kinds r x i w).1.opn = os) ∨
    (¬ (21 ≤ x.1 ∧ x.1 ≤ 24) ∧ (vStep kinds r x i w).1.opn = w.opn) := by
  revert h
  unfold vStep
  split
  · intro h; exact absurd h (by simp)
  · split
    · intro h; exact absurd h (by simp)
    · dsimp only
      split
      · rename_i h1
        intro h; exact absurd h h1
      · split
        · intro h; exact absurd h (by simp)
        · split
          · rename_i hx
            unfold vNest
            split
            · rename_i hx2
              split
              · intro h; exact absurd h (by simp)
              · intro _
                exact .inl ⟨hx2, _, rfl, rfl⟩
            · rename_i hx2
              split
              · intro h; exact absurd h (by simp)
              · rename_i o ho
                have hs : w.opn = w.opn.dropLast ++ [o] := tlast_snoc ho
                split
                · intro h; exact absurd h (by simp)
                · split
                  · intro h; exact absurd h (by simp)
                  · split
                    · rename_i h22
                      intro _
                      exact .inr (.inl ⟨h22, w.opn.dropLast, o, ⟨o.pos, 22, o.stk⟩, hs, rfl, rfl⟩)
                    · rename_i h22
                      intro _
                      exact .inr (.inr (.inl ⟨by omega, w.opn.dropLast, o, hs, rfl⟩))
          · rename_i hx
            intro _
            exact .inr (.inr (.inr ⟨hx, rfl⟩))
/-- A structure's end lies at n or behind it. -/
def endGe (code : List Ins) (i n : Nat) : Bool := match vMatch code i with | some x => decide ((n : Int) ≤ x.2) | none => false
def openB (code : List Ins) (n i : Nat) : Bool := decide (opens code i) && endGe code i n
/-- The structures that are open at n. -/
def posL (code : List Ins) (n : Nat) : List Nat := (List.range n).filter (openB code n)
theorem openB_less {code : List Ins} {n i : Nat} (h : openB code (n + 1) i = true) : openB code n i = true := by
  unfold openB endGe at *
  simp only [Bool.and_eq_true] at *
  refine ⟨h.1, ?_⟩
  have h2 := h.2
  split at h2
  · have := of_decide_eq_true h2
    exact decide_eq_true (by omega)
  · exact absurd h2 (by simp)
theorem posL_step (code : List Ins) (n : Nat) : posL code (n + 1) = (posL code n).filter (openB code (n + 1)) ++ (if openB code (n + 1) n then [n] else []) := by
  unfold posL
  rw [List.range_succ, List.filter_append, List.filter_filter]
  congr 1
  · apply List.filter_congr
    intro i _
    cases h : openB code (n + 1) i
    · simp
    · rw [openB_less h]; rfl
  · by_cases h : openB code (n + 1) n = true
    · rw [if_pos h, List.filter_cons_of_pos h, List.filter_nil]
    · rw [if_neg h, List.filter_cons_of_neg h, List.filter_nil]
structure OInv (code : List Ins) (n : Nat) (os : List VO) : Prop where
  each : ∀ d o, os.reverse[d]? = some o → ∃ q : Nat, o.pos = (q : Int) ∧ q < n ∧ opens code q ∧ ∃ x, vMatch code q = vMatchGo (code.drop n) n d x
  list : os.map (fun o => o.pos.toNat) = posL code n
theorem go_ge {l : List Ins} {i d : Nat} {o : Int} {x : Int × Int} (h : vMatchGo l i d o = some x) : (i : Int) ≤ x.2 := by
  obtain ⟨⟨m, _, e, _⟩, _⟩ := go_found l i d o x h
  omega
/-- One step of a search. -/
theorem go_step {code : List Ins} {n : Nat} (hn : n < code.length) (d : Nat) (o : Int) :
    vMatchGo (code.drop n) n d o = if opens code n then vMatchGo (code.drop (n + 1)) (n + 1 : Nat) (d + 1) o else if (code.getD n (0, 0)).1 = 22 then vMatchGo (code.drop (n + 1)) (n + 1 : Nat) d (if d = 0 then (n : Int) else o)
      else if (code.getD n (0, 0)).1 = 23 then (match d with | 0 => some (o, (n : Int)) | d + 1 => vMatchGo (code.drop (n + 1)) (n + 1 : Nat) d o) else vMatchGo (code.drop (n + 1)) (n + 1 : Nat) d o := by
  have e : code.getD n (0, 0) = code[n] := by simp [List.getD, hn]
  rw [List.drop_eq_getElem_cons hn, vMatchGo.eq_def]
  dsimp only
  have ho : opens code n ↔ (code[n].1 = 21 ∨ code[n].1 = 24) := by unfold opens; rw [e]
  rw [e]
  by_cases h1 : code[n].1 = 21 ∨ code[n].1 = 24
  · rw [if_pos h1, if_pos (ho.2 h1)]; rfl
  · rw [if_neg h1, if_neg (fun h => h1 (ho.1 h))]
    by_cases h2 : code[n].1 = 22
    · rw [if_pos h2, if_pos h2]; rfl
    · rw [if_neg h2, if_neg h2]
      by_cases h3 : code[n].1 = 23
      · rw [if_pos h3, if_pos h3]
        cases d <;> rfl
      · rw [if_neg h3, if_neg h3]; rfl
theorem filt_all {α : Type} {p : α → Bool} {l : List α} (h : ∀ a ∈ l, p a = true) : l.filter p = l := List.filter_eq_self.2 h
theorem oinv {code : List Ins} {kinds : List Int} {r : Int} (ha : vAll code = true) (h : (vVer code kinds r).2 = 0) : ∀ n, n ≤ code.length → OInv code n (vAt code kinds r n).opn
  | 0, _ => by
    have e : (vAt code kinds r 0).opn = [] := rfl
    rw [e]
    exact ⟨fun d o h => by simp at h, by simp [posL]⟩
  | n + 1, hn => by
    have ih := oinv ha h n (by omega)
    obtain ⟨hs, e⟩ := vAt_step (vVer_ok h).1 (show n < code.length by omega)
    have hso := vStep_opn hs
    rw [← e] at hso
    have hnl : n < code.length := by omega
    -- what is kept open, has its end behind n
    have keep : ∀ d q x, q < n + 1 → opens code q → vMatch code q = vMatchGo (code.drop (n + 1)) ((n + 1 : Nat) : Int) d x → openB code (n + 1) q = true := by
      intro d q x hq ho hm
      obtain ⟨y, hy⟩ := has_match ha h (show q < code.length by omega) ho
      have := go_ge (hm.symm.trans hy)
      unfold openB endGe
      rw [hy, decide_eq_true ho]
      exact decide_eq_true this
    rcases hso with ⟨hx, o, ho, e1⟩ | ⟨hx, os, o, o', e0, ho, e1⟩ | ⟨hx, os, o, e0, e1⟩ | ⟨hx, e1⟩
    · have hop : opens code n := hx
      have hst : ∀ d x, vMatchGo (code.drop n) n d x = vMatchGo (code.drop (n + 1)) (n + 1 : Nat) (d + 1) x := fun d x => by rw [go_step hnl, if_pos hop]
      have hnew : vMatch code n = vMatchGo (code.drop (n + 1)) (n + 1 : Nat) 0 0 := rfl
      have hE : ∀ d o, (vAt code kinds r (n + 1)).opn.reverse[d]? = some o → ∃ q : Nat, o.pos = (q : Int) ∧ q < n + 1 ∧ opens code q ∧ ∃ x, vMatch code q = vMatchGo (code.drop (n + 1)) ((n + 1 : Nat) : Int) d x := by
        intro d p hp
        rw [e1, List.reverse_append, List.reverse_singleton, List.singleton_append] at hp
        cases d with
        | zero =>
          simp only [List.getElem?_cons_zero, Option.some.injEq] at hp
          subst hp
          exact ⟨n, ho, by omega, hop, 0, hnew⟩
        | succ d =>
          rw [List.getElem?_cons_succ] at hp
          obtain ⟨q, h1, h2, h3, x, h4⟩ := ih.each d p hp
          exact ⟨q, h1, by omega, h3, x, by rw [h4, hst]⟩
      refine ⟨hE, ?_⟩
      rw [posL_step, e1, List.map_append, ih.list, if_pos (keep 0 n 0 (by omega) hop hnew), filt_all]
      · simp [ho]
      · intro q hq
        rw [← ih.list] at hq
        obtain ⟨p, hp, rfl⟩ := List.mem_map.1 hq
        obtain ⟨d, hd⟩ := List.mem_iff_getElem?.1 (List.mem_reverse.2 hp)
        obtain ⟨q, h1, h2, h3, x, h4⟩ := ih.each d p hd
        rw [h1]
        exact keep (d + 1) q x (by omega) h3 (by rw [h4, hst])
    · have hop : ¬ opens code n := by unfold opens; omega
      have hst : ∀ d x, vMatchGo (code.drop n) n d x = vMatchGo (code.drop (n + 1)) (n + 1 : Nat) d (if d = 0 then (n : Int) else x) := fun d x => by rw [go_step hnl, if_neg hop, if_pos hx]
      have hno : openB code (n + 1) n = false := by unfold openB; rw [decide_eq_false hop]; rfl
      have hrev : ∀ (d : Nat) (p : VO), (os ++ [o']).reverse[d]? = some p → ∃ p0 : VO, (os ++ [o]).reverse[d]? = some p0 ∧ p0.pos = p.pos := by
        intro d p hp
        rw [List.reverse_append, List.reverse_singleton, List.singleton_append] at hp ⊢
        cases d with
        | zero =>
          simp only [List.getElem?_cons_zero, Option.some.injEq] at hp ⊢
          subst hp
          exact ⟨o, rfl, ho.symm⟩
        | succ d =>
          rw [List.getElem?_cons_succ] at hp ⊢
          exact ⟨p, hp, rfl⟩
      have hE : ∀ d o, (vAt code kinds r (n + 1)).opn.reverse[d]? = some o → ∃ q : Nat, o.pos = (q : Int) ∧ q < n + 1 ∧ opens code q ∧ ∃ x, vMatch code q = vMatchGo (code.drop (n + 1)) ((n + 1 : Nat) : Int) d x := by
        intro d p hp
        rw [e1] at hp
        obtain ⟨p0, hp0, hpp⟩ := hrev d p hp
        rw [← e0] at hp0
        obtain ⟨q, h1, h2, h3, x, h4⟩ := ih.each d p0 hp0
        exact ⟨q, by rw [← hpp]; exact h1, by omega, h3, _, by rw [h4, hst]⟩
      refine ⟨hE, ?_⟩
      have hl : (os ++ [o']).map (fun o => o.pos.toNat) = posL code n := by rw [← ih.list, e0]; simp [ho]
      rw [posL_step, e1, hl, hno, filt_all]
      · simp
      · intro q hq
        rw [← ih.list] at hq
        obtain ⟨p, hp, rfl⟩ := List.mem_map.1 hq
        obtain ⟨d, hd⟩ := List.mem_iff_getElem?.1 (List.mem_reverse.2 hp)
        obtain ⟨q, h1, h2, h3, x, h4⟩ := ih.each d p hd
        rw [h1]
        exact keep d q _ (by omega) h3 (by rw [h4, hst])
    · have hop : ¬ opens code n := by unfold opens; omega
      have hst : ∀ d x, vMatchGo (code.drop n) n (d + 1) x = vMatchGo (code.drop (n + 1)) (n + 1 : Nat) d x := fun d x => by rw [go_step hnl, if_neg hop, if_neg (by omega), if_pos hx]
      have hst0 : ∀ x, vMatchGo (code.drop n) n 0 x = some (x, (n : Int)) := fun x => by rw [go_step hnl, if_neg hop, if_neg (by omega), if_pos hx]
      have hno : openB code (n + 1) n = false := by unfold openB; rw [decide_eq_false hop]; rfl
      have hrev : ∀ d : Nat, (os ++ [o]).reverse[d + 1]? = os.reverse[d]? := by
        intro d
        rw [List.reverse_append, List.reverse_singleton, List.singleton_append, List.getElem?_cons_succ]
      have hE : ∀ d o, (vAt code kinds r (n + 1)).opn.reverse[d]? = some o → ∃ q : Nat, o.pos = (q : Int) ∧ q < n + 1 ∧ opens code q ∧ ∃ x, vMatch code q = vMatchGo (code.drop (n + 1)) ((n + 1 : Nat) : Int) d x := by
        intro d p hp
        rw [e1, ← hrev d, ← e0] at hp
        obtain ⟨q, h1, h2, h3, x, h4⟩ := ih.each (d + 1) p hp
        exact ⟨q, h1, by omega, h3, x, by rw [h4, hst]⟩
      refine ⟨hE, ?_⟩
      have hl : posL code n = os.map (fun o => o.pos.toNat) ++ [o.pos.toNat] := by rw [← ih.list, e0]; simp
      have hlast : openB code (n + 1) o.pos.toNat = false := by
        obtain ⟨q, h1, h2, h3, x, h4⟩ := ih.each 0 o (by rw [e0, List.reverse_append]; rfl)
        rw [hst0] at h4
        unfold openB endGe
        rw [h1]
        simp only [Int.toNat_natCast]
        rw [h4]
        show (_ && decide (((n + 1 : Nat) : Int) ≤ (n : Int))) = false
        rw [decide_eq_false (by omega : ¬ ((n + 1 : Nat) : Int) ≤ (n : Int)), Bool.and_false]
      rw [posL_step, e1, hno, hl, List.filter_append, filt_all]
      · rw [List.filter_cons_of_neg (by rw [hlast]; simp)]
        simp
      · intro q hq
        obtain ⟨p, hp, rfl⟩ := List.mem_map.1 hq
        obtain ⟨d, hd⟩ := List.mem_iff_getElem?.1 (List.mem_reverse.2 hp)
        rw [← hrev d, ← e0] at hd
        obtain ⟨q, h1, h2, h3, x, h4⟩ := ih.each (d + 1) p hd
        rw [h1]
        exact keep d q x (by omega) h3 (by rw [h4, hst])
    · have hop : ¬ opens code n := by unfold opens; omega
      have hst : ∀ d x, vMatchGo (code.drop n) n d x = vMatchGo (code.drop (n + 1)) (n + 1 : Nat) d x := fun d x => by rw [go_step hnl, if_neg hop, if_neg (by omega), if_neg (by omega)]
      have hno : openB code (n + 1) n = false := by unfold openB; rw [decide_eq_false hop]; rfl
      have hE : ∀ d o, (vAt code kinds r (n + 1)).opn.reverse[d]? = some o → ∃ q : Nat, o.pos = (q : Int) ∧ q < n + 1 ∧ opens code q ∧ ∃ x, vMatch code q = vMatchGo (code.drop (n + 1)) ((n + 1 : Nat) : Int) d x := by
        intro d p hp
        rw [e1] at hp
        obtain ⟨q, h1, h2, h3, x, h4⟩ := ih.each d p hp
        exact ⟨q, h1, by omega, h3, x, by rw [h4, hst]⟩
      refine ⟨hE, ?_⟩
      rw [posL_step, e1, ih.list, hno, filt_all]
      · simp
      · intro q hq
        rw [← ih.list] at hq
        obtain ⟨p, hp, rfl⟩ := List.mem_map.1 hq
        obtain ⟨d, hd⟩ := List.mem_iff_getElem?.1 (List.mem_reverse.2 hp)
        obtain ⟨q, h1, h2, h3, x, h4⟩ := ih.each d p hd
        rw [h1]
        exact keep d q x (by omega) h3 (by rw [h4, hst])
/-- How often the loops that are open go at most. -/
def loopsL (code : List Ins) (n : Nat) : List Int := (List.range n).filterMap fun i => if (code.getD i (0, 0)).1 = 24 then (if endGe code i n then some (code.getD i (0, 0)).2 else none) else none
def loopsO (code : List Ins) (os : List VO) : List Int := os.filterMap fun o => if (code.getD o.pos.toNat (0, 0)).1 = 24 then some (code.getD o.pos.toNat (0, 0)).2 else none
theorem loops_eq {code : List Ins} {n : Nat} {os : List VO} (h : OInv code n os) : loopsO code os = loopsL code n := by
  have e1 : loopsO code os = (os.map (fun o => o.pos.toNat)).filterMap fun q => if (code.getD q (0, 0)).1 = 24 then some (code.getD q (0, 0)).2 else none := by
    unfold loopsO
    rw [List.filterMap_map]
    rfl
  rw [e1, h.list]
  unfold posL loopsL
  rw [List.filterMap_filter]
  refine congrArg (fun g => List.filterMap g (List.range n)) (funext fun i => ?_)
  unfold openB opens
  by_cases h1 : (code.getD i (0, 0)).1 = 24
  · rw [if_pos h1, if_pos h1]
    rw [decide_eq_true (.inr h1 : (code.getD i (0, 0)).1 = 21 ∨ (code.getD i (0, 0)).1 = 24), Bool.true_and]
  · rw [if_neg h1, if_neg h1]
    simp
end Go.Proofs.YtnehaidkhpjpbaaDoor
