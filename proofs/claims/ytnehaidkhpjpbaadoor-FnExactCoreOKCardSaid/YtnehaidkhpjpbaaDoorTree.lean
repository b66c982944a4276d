/- Accepted code is a tree of statements; the else and the end of each structure stand where the tree has them. -/
import Derived.Test.YtnehaidkhpjpbaaDoorVerD
namespace Go.Proofs.YtnehaidkhpjpbaaDoor
inductive St where
  | op (x : Ins)
  | br (b : List St)
  | be (b f : List St)
  | lp (n : Int) (b : List St)
mutual
/-- A statement as code. -/
def St.fl : St → List Ins
  | .op x => [x]
  | .br b => (21, 0) :: (flL b ++ [(23, 0)])
  | .be b f => (21, 0) :: (flL b ++ (22, 0) :: (flL f ++ [(23, 0)]))
  | .lp n b => (24, n) :: (flL b ++ [(23, 0)])
def flL : List St → List Ins
  | [] => []
  | s :: r => s.fl ++ flL r
end
mutual
/-- Its plain operations are plain. -/
def St.pl : St → Prop
  | .op x => ¬ (21 ≤ x.1 ∧ x.1 ≤ 24)
  | .br b => plL b
  | .be b f => plL b ∧ plL f
  | .lp _ b => plL b
def plL : List St → Prop
  | [] => True
  | s :: r => s.pl ∧ plL r
end
theorem flL_app (a b : List St) : flL (a ++ b) = flL a ++ flL b := by
  induction a with
  | nil => rfl
  | cons s r ih => rw [List.cons_append, flL, flL, ih, List.append_assoc]
theorem plL_app {a b : List St} (h : plL a) (g : plL b) : plL (a ++ b) := by
  induction a with
  | nil => exact g
  | cons s r ih =>
    rw [plL] at h
    rw [List.cons_append, plL]
    exact ⟨h.1, ih h.2⟩
theorem flL_one (s : St) : flL [s] = s.fl := by rw [flL, flL, List.append_nil]
/-- The head of what is open: an if, an if behind its else, a repeat. -/
inductive Hd where
  | i
  | e (b : List St)
  | r (n : Int)
def Hd.fl : Hd → List Ins
  | .i => [(21, 0)]
  | .e b => (21, 0) :: (flL b ++ [(22, 0)])
  | .r n => [(24, n)]
def Hd.op : Hd → Int
  | .i => 21
  | .e _ => 22
  | .r _ => 24
def Hd.pl : Hd → Prop
  | .e b => plL b
  | _ => True
def hdL (hs : List (Hd × List St)) : List Ins := hs.flatMap fun h => h.1.fl ++ flL h.2
theorem hdL_snoc (hs : List (Hd × List St)) (h : Hd × List St) : hdL (hs ++ [h]) = hdL hs ++ (h.1.fl ++ flL h.2) := by simp [hdL]
/-- What has been read, as far as it is closed, and what is open. -/
def TPart (zs : List Ins) (os : List VO) : Prop := ∃ (t : List St) (hs : List (Hd × List St)), zs = flL t ++ hdL hs ∧ plL t ∧ (∀ h ∈ hs, h.1.pl ∧ plL h.2) ∧ os.map (·.op) = hs.map (fun h => h.1.op)
theorem snoc_cases {α : Type} (l : List α) : l = [] ∨ ∃ a x, l = a ++ [x] := by
  rcases List.eq_nil_or_concat l with h | ⟨a, x, h⟩
  · exact .inl h
  · exact .inr ⟨a, x, by simpa using h⟩
theorem TPart.nil : TPart [] [] := ⟨[], [], rfl, trivial, by simp, rfl⟩
/-- Statements that are closed join what was read last. -/
theorem TPart.add {zs : List Ins} {os : List VO} (h : TPart zs os) (s : St) (hs : s.pl) : TPart (zs ++ s.fl) os := by
  obtain ⟨t, l, rfl, ht, hl, ho⟩ := h
  rcases snoc_cases l with rfl | ⟨l', ⟨q, u⟩, rfl⟩
  · refine ⟨t ++ [s], [], ?_, plL_app ht ⟨hs, trivial⟩, by simp, ho⟩
    rw [flL_app, flL_one]
    simp [hdL]
  · refine ⟨t, l' ++ [(q, u ++ [s])], ?_, ht, ?_, by simpa using ho⟩
    · rw [hdL_snoc, hdL_snoc]
      show _ = flL t ++ (hdL l' ++ (q.fl ++ flL (u ++ [s])))
      rw [flL_app, flL_one]
      simp
    · intro x hx
      rcases List.mem_append.1 hx with hx | hx
      · exact hl x (List.mem_append_left _ hx)
      · simp only [List.mem_singleton] at hx
        subst hx
        have := hl (q, u) (by simp)
        exact ⟨this.1, plL_app this.2 ⟨hs, trivial⟩⟩
theorem TPart.open {zs : List Ins} {os : List VO} (h : TPart zs os) (q : Hd) (hq : q.pl) (o : VO) (ho : o.op = q.op) : TPart (zs ++ q.fl) (os ++ [o]) := by
  obtain ⟨t, l, rfl, ht, hl, he⟩ := h
  refine ⟨t, l ++ [(q, [])], ?_, ht, ?_, by simp [he, ho]⟩
  · rw [hdL_snoc]
    simp [flL]
  · intro x hx
    rcases List.mem_append.1 hx with hx | hx
    · exact hl x hx
    · simp only [List.mem_singleton] at hx
      subst hx
      exact ⟨hq, trivial⟩
/-- The last that is open. -/
theorem TPart.last {zs : List Ins} {os : List VO} {o : VO} (h : TPart zs (os ++ [o])) : ∃ (ys : List Ins) (q : Hd) (u : List St), zs = ys ++ (q.fl ++ flL u) ∧ q.pl ∧ plL u ∧ q.op = o.op ∧ TPart ys os := by
  obtain ⟨t, l, rfl, ht, hl, he⟩ := h
  rcases snoc_cases l with rfl | ⟨l', ⟨q, u⟩, rfl⟩
  · simp at he
  · simp only [List.map_append, List.map_cons, List.map_nil] at he
    have he' := List.append_inj' he rfl
    have hm := hl (q, u) (by simp)
    refine ⟨flL t ++ hdL l', q, u, by rw [hdL_snoc, List.append_assoc], hm.1, hm.2, ?_, t, l', rfl, ht, fun x hx => hl x (List.mem_append_left _ hx), he'.1⟩
    have := he'.2
    simp at this
    exact this.symm
theorem vOK_zero {x : Ins} (h : vOK x = true) (hx : x.1 = 21 ∨ x.1 = 22 ∨ x.1 = 23) : x = (x.1, 0) := by
  obtain ⟨o, a⟩ := x
  simp only [vOK, Bool.and_eq_true, decide_eq_true_iff] at h
  have : a = 0 := by
    rcases hx with rfl | rfl | rfl <;> simp [vLo, vHi] at h <;> omega
  rw [this]
theorem tlast_snoc {os : List VO} {o : VO} (h : os.getLast? = some o) : os = os.dropLast ++ [o] := by
  rcases snoc_cases os with rfl | ⟨a, x, rfl⟩
  · simp at h
  · simp at h
    simp [h]
/-- One instruction more. -/
theorem TPart.step {zs : List Ins} {w : VW} {kinds : List Int} {r : Int} {x : Ins} {i : Int} (h : TPart zs w.opn) (hx : vOK x = true) (hs : (vStep kinds r x i w).2 = 0) : TPart (zs ++ [x]) (vStep kinds r x i w).1.opn := by
  revert hs
  unfold vStep
  split
  · intro g; exact absurd g (by simp)
  split
  · intro g; exact absurd g (by simp)
  dsimp only
  split
  · rename_i _ _ g1; intro g; exact absurd g g1
  split
  · intro g; exact absurd g (by simp)
  split
  · rename_i hn
    generalize (vTake w.stk (vSign kinds x).1 w.floor).1 ++ (vSign kinds x).2 = st
    unfold vNest
    split
    · split
      · intro g; exact absurd g (by simp)
      · rename_i hop _
        intro _
        rcases hop with e | e
        · have hz := vOK_zero hx (.inl e)
          rw [hz, e]
          exact h.open .i trivial _ rfl
        · have : x = (24, x.2) := by rw [← e]
          rw [this]
          exact h.open (.r x.2) trivial ⟨i, 24, st⟩ rfl
    · rename_i hop
      dsimp only
      split
      · intro g; exact absurd g (by simp)
      · rename_i o ho
        have hos := tlast_snoc ho
        split
        · intro g; exact absurd g (by simp)
        · rename_i hel
          split
          · intro g; exact absurd g (by simp)
          · split
            · rename_i e
              intro _
              have hz := vOK_zero hx (.inr (.inl e))
              rw [hz, e]
              have hh := h
              rw [hos] at hh
              obtain ⟨ys, q, u, rfl, hq, hu, hqo, hy⟩ := hh.last
              have ho21 : o.op = 21 := by
                by_cases e21 : o.op = 21
                · exact e21
                · exact absurd ⟨e, e21⟩ hel
              cases q with
              | i =>
                have := hy.open (.e u) hu ⟨o.pos, 22, o.stk⟩ rfl
                simpa [Hd.fl] using this
              | e b => rw [ho21] at hqo; exact absurd hqo (by simp [Hd.op])
              | r n => rw [ho21] at hqo; exact absurd hqo (by simp [Hd.op])
            · rename_i e
              intro _
              have e23 : x.1 = 23 := by omega
              have hz := vOK_zero hx (.inr (.inr e23))
              rw [hz, e23]
              have hh := h
              rw [hos] at hh
              obtain ⟨ys, q, u, rfl, hq, hu, hqo, hy⟩ := hh.last
              cases q with
              | i =>
                have := hy.add (.br u) hu
                simpa [Hd.fl, St.fl] using this
              | e b =>
                have := hy.add (.be b u) ⟨hq, hu⟩
                simpa [Hd.fl, St.fl] using this
              | r n =>
                have := hy.add (.lp n u) hu
                simpa [Hd.fl, St.fl] using this
  · rename_i hn
    intro _
    exact h.add (.op x) hn
theorem TPart.run {kinds : List Int} {r : Int} : ∀ (xs zs : List Ins) (i : Nat) (w : VW), TPart zs w.opn → vAll xs = true → (vRun kinds r xs i w).2.1 = 0 → TPart (zs ++ xs) (vRun kinds r xs i w).1.opn
  | [], zs, i, w, h, _, _ => by simpa [vRun] using h
  | x :: xs, zs, i, w, h, ha, hr => by
    rw [vRun] at hr ⊢
    simp only [vAll, List.all_cons, Bool.and_eq_true] at ha
    by_cases g : (vStep kinds r x i w).2 = 0
    · rw [if_pos g] at hr ⊢
      have := TPart.run xs (zs ++ [x]) (i + 1) _ (h.step ha.1 g) ha.2 hr
      simpa using this
    · rw [if_neg g] at hr
      exact absurd hr g
/-- Accepted code is a list of statements. -/
theorem tree_of {code : List Ins} {kinds : List Int} {r : Int} (ha : vAll code = true) (h : (vVer code kinds r).2 = 0) : ∃ ts, flL ts = code ∧ plL ts := by
  have h1 := vVer_ok h
  have hp := TPart.run code [] 0 ⟨[], []⟩ TPart.nil ha h1.1
  have ho : (vRun kinds r code 0 ⟨[], []⟩).1.opn = [] := by
    unfold vVer at h
    dsimp only at h
    rw [if_neg (by rw [h1.1]; simp)] at h
    split at h
    · exact absurd h (by simp)
    · rename_i e
      exact List.getLast?_eq_none_iff.1 e
  rw [ho] at hp
  obtain ⟨t, l, e, ht, hl, he⟩ := hp
  have : l = [] := by cases l with
    | nil => rfl
    | cons a b => simp at he
  subst this
  refine ⟨t, ?_, ht⟩
  simpa [hdL] using e.symm
theorem vmg (x : Ins) (r : List Ins) (i : Int) (d : Nat) (o : Int) : vMatchGo (x :: r) i d o =
    if x.1 = 21 ∨ x.1 = 24 then vMatchGo r (i + 1) (d + 1) o
    else if x.1 = 22 then vMatchGo r (i + 1) d (if d = 0 then i else o)
    else if x.1 = 23 then (match d with | 0 => some (o, i) | e + 1 => vMatchGo r (i + 1) e o)
    else vMatchGo r (i + 1) d o := by
  cases d <;> rfl
mutual
theorem match_fl : ∀ (s : St) (rest : List Ins) (i : Int) (d : Nat) (o : Int), s.pl → vMatchGo (s.fl ++ rest) i d o = vMatchGo rest (i + s.fl.length) d o
  | .op x, rest, i, d, o, h => by
    rw [St.pl] at h
    rw [St.fl, List.singleton_append, vmg, if_neg (by omega), if_neg (by omega), if_neg (by omega)]
    rfl
  | .br b, rest, i, d, o, h => by
    rw [St.pl] at h
    rw [St.fl, List.cons_append, List.append_assoc, vmg, if_pos (.inl rfl), match_flL b _ _ _ _ h, List.singleton_append, vmg]
    simp
    congr 1
    omega
  | .be b f, rest, i, d, o, h => by
    rw [St.pl] at h
    rw [St.fl, List.cons_append, List.append_assoc, vmg, if_pos (.inl rfl), match_flL b _ _ _ _ h.1, List.cons_append, vmg, if_neg (by simp), if_pos rfl, if_neg (by simp), List.append_assoc, match_flL f _ _ _ _ h.2, List.singleton_append, vmg]
    simp
    congr 1
    omega
  | .lp n b, rest, i, d, o, h => by
    rw [St.pl] at h
    rw [St.fl, List.cons_append, List.append_assoc, vmg, if_pos (.inr rfl), match_flL b _ _ _ _ h, List.singleton_append, vmg]
    simp
    congr 1
    omega
/-- Nothing in closed statements is the else or the end of what is around them. -/
theorem match_flL : ∀ (ts : List St) (rest : List Ins) (i : Int) (d : Nat) (o : Int), plL ts → vMatchGo (flL ts ++ rest) i d o = vMatchGo rest (i + (flL ts).length) d o
  | [], rest, i, d, o, _ => by rw [flL, List.nil_append]; simp
  | s :: r, rest, i, d, o, h => by
    rw [plL] at h
    rw [flL, List.append_assoc, match_fl s _ _ _ _ h.1, match_flL r _ _ _ _ h.2, List.length_append]
    congr 1
    omega
end
theorem vMatch_at (a : List Ins) (x : Ins) (c : List Ins) : vMatch (a ++ x :: c) a.length = vMatchGo c (a.length + 1) 0 0 := by
  unfold vMatch
  have : (a ++ x :: c).drop (a.length + 1) = c := by rw [show a ++ x :: c = (a ++ [x]) ++ c by simp, show a.length + 1 = (a ++ [x]).length by simp, List.drop_left]
  rw [this]
theorem match_br {a c : List Ins} {b : List St} (h : plL b) : vMatch (a ++ ((21, 0) :: (flL b ++ [(23, 0)])) ++ c) a.length = some (0, (a.length : Int) + 1 + (flL b).length) := by
  rw [List.append_assoc, List.cons_append, vMatch_at, List.append_assoc, match_flL b _ _ _ _ h, List.singleton_append, vmg, if_neg (by simp), if_neg (by simp), if_pos rfl]
theorem match_be {a c : List Ins} {b f : List St} (h : plL b) (g : plL f) : vMatch (a ++ ((21, 0) :: (flL b ++ (22, 0) :: (flL f ++ [(23, 0)]))) ++ c) a.length = some ((a.length : Int) + 1 + (flL b).length, (a.length : Int) + 1 + (flL b).length + 1 + (flL f).length) := by
  rw [List.append_assoc, List.cons_append, vMatch_at, List.append_assoc, match_flL b _ _ _ _ h, List.cons_append, vmg, if_neg (by simp), if_pos rfl, if_pos rfl, List.append_assoc, match_flL f _ _ _ _ g, List.singleton_append, vmg, if_neg (by simp), if_neg (by simp), if_pos rfl]
theorem match_lp {a c : List Ins} {b : List St} {n : Int} (h : plL b) : vMatch (a ++ ((24, n) :: (flL b ++ [(23, 0)])) ++ c) a.length = some (0, (a.length : Int) + 1 + (flL b).length) := by
  rw [List.append_assoc, List.cons_append, vMatch_at, List.append_assoc, match_flL b _ _ _ _ h, List.singleton_append, vmg, if_neg (by simp), if_neg (by simp), if_pos rfl]
end Go.Proofs.YtnehaidkhpjpbaaDoor
