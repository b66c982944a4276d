/- The pieces of which drawn code is made: each is valid and leaves what it should. -/
import Derived.Test.YtppgknjpbfopjaaGreatDoorVer
import Derived.WalkKit
namespace Go.Proofs.YtppgknjpbfopjaaGreatDoor
/-- The range of A. -/
def vLo (op : Int) : Int := if op = 1 then -2147483648 else if op = 24 then 1 else 0
def vHi (op : Int) : Int :=
  if op = 1 then 2147483647 else if op = 2 then 1 else if op = 3 ∨ op = 4 then 15 else if op = 5 ∨ op = 6 ∨ op = 7 ∨ op = 8 ∨ op = 19 ∨ op = 20 then 7 else if op = 24 then 20 else if op = 26 then 5 else 0
def vOK (x : Ins) : Bool := decide (1 ≤ x.1 ∧ x.1 ≤ 26) && decide (vLo x.1 ≤ x.2 ∧ x.2 ≤ vHi x.1)
def vAll (zs : List Ins) : Bool := zs.all vOK
theorem vAll_app (a b : List Ins) : vAll (a ++ b) = (vAll a && vAll b) := by simp [vAll]
theorem vAll_one (x : Ins) : vAll [x] = vOK x := by simp [vAll]
/-- A piece that leaves p, needs n places and d levels, and whose instructions are valid. -/
def Pc (kinds : List Int) (r : Int) (zs : List Ins) (p : List UInt8) (n d : Nat) : Prop := Frag kinds r zs p n d ∧ vAll zs = true
theorem Pc.more {kinds : List Int} {r : Int} {zs : List Ins} {p : List UInt8} {n d n' d' : Nat} (h : Pc kinds r zs p n d) (hn : n ≤ n') (hd : d ≤ d') : Pc kinds r zs p n' d' := ⟨h.1.more hn hd, h.2⟩
theorem Pc.nil (kinds : List Int) (r : Int) : Pc kinds r [] [] 0 0 := ⟨Frag.nil kinds r, rfl⟩
theorem Pc.app {kinds : List Int} {r : Int} {a b : List Ins} {p q : List UInt8} {n m d e : Nat} (h : Pc kinds r a p n d) (g : Pc kinds r b q m e) : Pc kinds r (a ++ b) (p ++ q) (max (max n p.length) (p.length + m)) (max d e) :=
  ⟨h.1.app g.1, by rw [vAll_app, h.2, g.2]; rfl⟩
theorem Pc.one {kinds : List Int} {r : Int} {x : Ins} {q : List UInt8} (hs : vSign kinds x = ([], q)) (hx : ¬ (21 ≤ x.1 ∧ x.1 ≤ 24)) (hk : ¬ ((x.1 = 19 ∨ x.1 = 20) ∧ (kinds.length : Int) ≤ x.2)) (hr : ¬ (x.1 = 26 ∧ r ≤ x.2)) (ho : vOK x = true) : Pc kinds r [x] q q.length 0 :=
  ⟨Frag.one hs hx hk hr, by rw [vAll_one]; exact ho⟩
theorem Pc.op {kinds : List Int} {r : Int} {x : Ins} {a : List Ins} {p t q : List UInt8} {n d : Nat} (h : Pc kinds r a (p ++ t) n d) (hs : vSign kinds x = (t, q)) (hx : ¬ (21 ≤ x.1 ∧ x.1 ≤ 24)) (hk : ¬ ((x.1 = 19 ∨ x.1 = 20) ∧ (kinds.length : Int) ≤ x.2)) (hr : ¬ (x.1 = 26 ∧ r ≤ x.2)) (ho : vOK x = true) :
    Pc kinds r (a ++ [x]) (p ++ q) (max n (p.length + q.length)) d := ⟨h.1.op hs hx hk hr, by rw [vAll_app, h.2, vAll_one, ho]; rfl⟩
theorem pc_push {kinds : List Int} {r v : Int} (h : -2147483648 ≤ v ∧ v ≤ 2147483647) : Pc kinds r [(1, v)] [105] 1 0 :=
  Pc.one (q := [105]) (by simp [vSign]) (by simp) (by simp) (by simp) (by simp [vOK, vLo, vHi]; exact h)
theorem pc_load {kinds : List Int} {r v : Int} (h : 0 ≤ v ∧ v ≤ 15) : Pc kinds r [(3, v)] [105] 1 0 :=
  Pc.one (q := [105]) (by simp [vSign]) (by simp) (by simp) (by simp) (by simp [vOK, vLo, vHi]; exact h)
theorem pc_value {kinds : List Int} {r v : Int} (h : 0 ≤ v ∧ v < kinds.length) (hk : kinds.length ≤ 8) : Pc kinds r [(20, v)] [105] 1 0 :=
  Pc.one (q := [105]) (by simp [vSign]) (by simp) (by simp; omega) (by simp) (by simp [vOK, vLo, vHi]; omega)
theorem pc_flag {kinds : List Int} {r v : Int} (h : 0 ≤ v ∧ v ≤ 1) : Pc kinds r [(2, v)] [98] 1 0 :=
  Pc.one (q := [98]) (by simp [vSign]) (by simp) (by simp) (by simp) (by simp [vOK, vLo, vHi]; exact h)
theorem pc_peek {kinds : List Int} {r v : Int} (h : 0 ≤ v ∧ v ≤ 7) : Pc kinds r [(7, v)] [98] 1 0 :=
  Pc.one (q := [98]) (by simp [vSign]) (by simp) (by simp) (by simp) (by simp [vOK, vLo, vHi]; exact h)
theorem pc_in {kinds : List Int} {r v : Int} (h : 0 ≤ v ∧ v ≤ 7) : Pc kinds r [(5, v)] [98] 1 0 :=
  Pc.one (q := [98]) (by simp [vSign]) (by simp) (by simp) (by simp) (by simp [vOK, vLo, vHi]; exact h)
theorem pc_cut {kinds : List Int} {r : Int} : Pc kinds r [(25, 0)] [] 0 0 :=
  Pc.one (q := []) (by simp [vSign]) (by simp) (by simp) (by simp) (by simp [vOK, vLo, vHi])
theorem pc_call {kinds : List Int} {r v : Int} (h : 0 ≤ v ∧ v < r) (hr : r ≤ 6) : Pc kinds r [(26, v)] [] 0 0 :=
  Pc.one (q := []) (by simp [vSign]) (by simp) (by simp) (by simp; omega) (by simp [vOK, vLo, vHi]; omega)
theorem pc_sel {kinds : List Int} {r : Int} {a b c : List Ins} (ha : Pc kinds r a [98] 1 0) (hb : Pc kinds r b [105] 1 0) (hc : Pc kinds r c [105] 1 0) : Pc kinds r (a ++ b ++ c ++ [(18, 0)]) [105] 3 0 := by
  have h := (ha.app hb).app hc
  have := Pc.op (p := []) (t := [98, 105, 105]) (q := [105]) (x := (18, 0)) h (by simp [vSign]) (by simp) (by simp) (by simp) (by simp [vOK, vLo, vHi])
  exact this.more (by simp) (by simp)
theorem pc_arith {kinds : List Int} {r k : Int} {a b : List Ins} (ha : Pc kinds r a [105] 3 0) (hb : Pc kinds r b [105] 1 0) (hk : k = 9 ∨ k = 10 ∨ k = 11 ∨ k = 12) : Pc kinds r (a ++ b ++ [(k, 0)]) [105] 3 0 := by
  have h := ha.app hb
  have := Pc.op (p := []) (t := [105, 105]) (q := [105]) (x := (k, 0)) h (by rcases hk with rfl | rfl | rfl | rfl <;> simp [vSign]) (by simp; omega) (by simp; omega) (by simp; omega) (by rcases hk with rfl | rfl | rfl | rfl <;> simp [vOK, vLo, vHi])
  exact this.more (by simp) (by simp)
theorem pc_comp {kinds : List Int} {r k : Int} {a b : List Ins} (ha : Pc kinds r a [105] 1 0) (hb : Pc kinds r b [105] 1 0) (hk : k = 13 ∨ k = 14) : Pc kinds r (a ++ b ++ [(k, 0)]) [98] 3 0 := by
  have h := ha.app hb
  have := Pc.op (p := []) (t := [105, 105]) (q := [98]) (x := (k, 0)) h (by rcases hk with rfl | rfl <;> simp [vSign]) (by simp; omega) (by simp; omega) (by simp; omega) (by rcases hk with rfl | rfl <;> simp [vOK, vLo, vHi])
  exact this.more (by simp) (by simp)
theorem pc_not {kinds : List Int} {r : Int} {a : List Ins} (ha : Pc kinds r a [98] 3 0) : Pc kinds r (a ++ [(17, 0)]) [98] 3 0 := by
  have := Pc.op (p := []) (t := [98]) (q := [98]) (x := (17, 0)) ha (by simp [vSign]) (by simp) (by simp) (by simp) (by simp [vOK, vLo, vHi])
  exact this.more (by simp) (by simp)
theorem pc_both {kinds : List Int} {r k : Int} {a b : List Ins} (ha : Pc kinds r a [98] 3 0) (hb : Pc kinds r b [98] 1 0) (hk : k = 15 ∨ k = 16) : Pc kinds r (a ++ b ++ [(k, 0)]) [98] 3 0 := by
  have h := ha.app hb
  have := Pc.op (p := []) (t := [98, 98]) (q := [98]) (x := (k, 0)) h (by rcases hk with rfl | rfl <;> simp [vSign]) (by simp; omega) (by simp; omega) (by simp; omega) (by rcases hk with rfl | rfl <;> simp [vOK, vLo, vHi])
  exact this.more (by simp) (by simp)
/-- What a function block takes, letter for letter. -/
theorem pc_takes {kinds : List Int} {r : Int} {a : List Ins} {t : List UInt8} {z : Ins} {b : UInt8} (ha : Pc kinds r a t t.length 0) (hb : Pc kinds r [z] [b] 1 0) : Pc kinds r (a ++ [z]) (t ++ [b]) (t ++ [b]).length 0 :=
  (ha.app hb).more (by simp) (by simp)
theorem tkL_len (k : Int) : (tkL k).length ≤ 3 := by
  unfold tkL
  split
  · decide
  · split
    · decide
    · split <;> decide
theorem pc_block {kinds : List Int} {r k : Int} {a : List Ins} (h : 0 ≤ k ∧ k < kinds.length) (hl : kinds.length ≤ 8) (ha : Pc kinds r a (tkL (kinds.getD k.toNat 0)) (tkL (kinds.getD k.toNat 0)).length 0) : Pc kinds r (a ++ [(19, k)]) [98] 3 0 := by
  have := Pc.op (p := []) (t := tkL (kinds.getD k.toNat 0)) (q := [98]) (x := (19, k)) ha (by simp [vSign]) (by simp) (by simp; omega) (by simp) (by simp [vOK, vLo, vHi]; omega)
  refine this.more ?_ (Nat.le_refl _)
  have h3 := tkL_len (kinds.getD k.toNat 0)
  show max (tkL (kinds.getD k.toNat 0)).length 1 ≤ 3
  omega
theorem pc_store {kinds : List Int} {r k : Int} {a : List Ins} (ha : Pc kinds r a [105] 3 0) (hk : 0 ≤ k ∧ k ≤ 15) : Pc kinds r (a ++ [(4, k)]) [] 3 0 := by
  have := Pc.op (p := []) (t := [105]) (q := []) (x := (4, k)) ha (by simp [vSign]) (by simp) (by simp) (by simp) (by simp [vOK, vLo, vHi]; exact hk)
  exact this.more (by simp) (by simp)
theorem pc_out {kinds : List Int} {r o k : Int} {a : List Ins} (ha : Pc kinds r a [98] 3 0) (ho : o = 6 ∨ o = 8) (hk : 0 ≤ k ∧ k ≤ 7) : Pc kinds r (a ++ [(o, k)]) [] 3 0 := by
  have := Pc.op (p := []) (t := [98]) (q := []) (x := (o, k)) ha (by rcases ho with rfl | rfl <;> simp [vSign]) (by simp; omega) (by simp; omega) (by simp; omega) (by rcases ho with rfl | rfl <;> simp [vOK, vLo, vHi] <;> exact hk)
  exact this.more (by simp) (by simp)
theorem pc_plain {kinds : List Int} {r : Int} : Pc kinds r ([(3, 0)] ++ [(1, 1)] ++ [(9, 0)] ++ [(4, 0)]) [] 3 0 :=
  pc_store (pc_arith ((pc_load (by omega)).more (by omega) (by omega)) (pc_push (by omega)) (.inl rfl)) (by omega)
theorem pc_branch {kinds : List Int} {r : Int} {c b : List Ins} {e : Nat} (h : Pc kinds r c [98] 3 0) (g : Pc kinds r b [] 3 e) : Pc kinds r (c ++ [(21, 0)] ++ b ++ [(23, 0)]) [] 3 (e + 1) :=
  ⟨(h.1.branch g.1).more (by omega) (by omega), by rw [vAll_app, vAll_app, vAll_app, h.2, g.2, vAll_one, vAll_one]; rfl⟩
theorem pc_twoways {kinds : List Int} {r : Int} {c b f : List Ins} {e : Nat} (h : Pc kinds r c [98] 3 0) (g : Pc kinds r b [] 3 e) (k : Pc kinds r f [] 3 e) : Pc kinds r (c ++ [(21, 0)] ++ b ++ [(22, 0)] ++ f ++ [(23, 0)]) [] 3 (e + 1) :=
  ⟨(h.1.both g.1 k.1).more (by omega) (by omega), by rw [vAll_app, vAll_app, vAll_app, vAll_app, vAll_app, h.2, g.2, k.2, vAll_one, vAll_one, vAll_one]; rfl⟩
theorem pc_loop {kinds : List Int} {r n : Int} {b : List Ins} {e : Nat} (g : Pc kinds r b [] 3 e) (hn : 1 ≤ n ∧ n ≤ 20) : Pc kinds r ([(24, n)] ++ b ++ [(23, 0)]) [] 3 (e + 1) :=
  ⟨g.1.loop, by rw [vAll_app, vAll_app, g.2, vAll_one, vAll_one]; simp [vOK, vLo, vHi]; exact hn⟩
theorem pc_seq {kinds : List Int} {r : Int} {a b : List Ins} {d : Nat} (h : Pc kinds r a [] 3 d) (g : Pc kinds r b [] 3 d) : Pc kinds r (a ++ b) [] 3 d :=
  (h.app g).more (by simp) (by omega)
/-- Code that is put together so is accepted. -/
theorem pc_accepted {kinds : List Int} {r : Int} {zs : List Ins} {d : Nat} (h : Pc kinds r zs [] 3 d) (hd : d ≤ 4) : vVer zs kinds r = (0, 0) := h.1.accepted (by omega) hd
end Go.Proofs.YtppgknjpbfopjaaGreatDoor
namespace Go.Proofs.YtppgknjpbfopjaaGreatDoor
inductive St where
  | op (x : Ins)
  | br (b : List St)
  | be (b f : List St)
  | lp (n : Int) (b : List St)
mutual
/-- A statement as code. -/
def St.fl : St → List Ins
  | .op x => [x]
  | .br b => (21, 0) :: (flL b ++ [(23, 0)])
  | .be b f => (21, 0) :: (flL b ++ (22, 0) :: (flL f ++ [(23, 0)]))
  | .lp n b => (24, n) :: (flL b ++ [(23, 0)])
def flL : List St → List Ins
  | [] => []
  | s :: r => s.fl ++ flL r
end
mutual
/-- Its plain operations are plain. -/
def St.pl : St → Prop
  | .op x => ¬ (21 ≤ x.1 ∧ x.1 ≤ 24)
  | .br b => plL b
  | .be b f => plL b ∧ plL f
  | .lp _ b => plL b
def plL : List St → Prop
  | [] => True
  | s :: r => s.pl ∧ plL r
end
theorem flL_app (a b : List St) : flL (a ++ b) = flL a ++ flL b := by
  induction a with
  | nil => rfl
  | cons s r ih => rw [List.cons_append, flL, flL, ih, List.append_assoc]
theorem plL_app {a b : List St} (h : plL a) (g : plL b) : plL (a ++ b) := by
  induction a with
  | nil => exact g
  | cons s r ih =>
    rw [plL] at h
    rw [List.cons_append, plL]
    exact ⟨h.1, ih h.2⟩
theorem flL_one (s : St) : flL [s] = s.fl := by rw [flL, flL, List.append_nil]
/-- The head of what is open: an if, an if behind its else, a repeat. -/
inductive Hd where
  | i
  | e (b : List St)
  | r (n : Int)
def Hd.fl : Hd → List Ins
  | .i => [(21, 0)]
  | .e b => (21, 0) :: (flL b ++ [(22, 0)])
  | .r n => [(24, n)]
def Hd.op : Hd → Int
  | .i => 21
  | .e _ => 22
  | .r _ => 24
def Hd.pl : Hd → Prop
  | .e b => plL b
  | _ => True
def hdL (hs : List (Hd × List St)) : List Ins := hs.flatMap fun h => h.1.fl ++ flL h.2
theorem hdL_snoc (hs : List (Hd × List St)) (h : Hd × List St) : hdL (hs ++ [h]) = hdL hs ++ (h.1.fl ++ flL h.2) := by simp [hdL]
/-- What has been read, as far as it is closed, and what is open. -/
def TPart (zs : List Ins) (os : List VO) : Prop := ∃ (t : List St) (hs : List (Hd × List St)), zs = flL t ++ hdL hs ∧ plL t ∧ (∀ h ∈ hs, h.1.pl ∧ plL h.2) ∧ os.map (·.op) = hs.map (fun h => h.1.op)
theorem snoc_cases {α : Type} (l : List α) : l = [] ∨ ∃ a x, l = a ++ [x] := by
  rcases List.eq_nil_or_concat l with h | ⟨a, x, h⟩
  · exact .inl h
  · exact .inr ⟨a, x, by simpa using h⟩
theorem TPart.nil : TPart [] [] := ⟨[], [], rfl, trivial, by simp, rfl⟩
/-- Statements that are closed join what was read last. -/
theorem TPart.add {zs : List Ins} {os : List VO} (h : TPart zs os) (s : St) (hs : s.pl) : TPart (zs ++ s.fl) os := by
  obtain ⟨t, l, rfl, ht, hl, ho⟩ := h
  rcases snoc_cases l with rfl | ⟨l', ⟨q, u⟩, rfl⟩
  · refine ⟨t ++ [s], [], ?_, plL_app ht ⟨hs, trivial⟩, by simp, ho⟩
    rw [flL_app, flL_one]
    simp [hdL]
  · refine ⟨t, l' ++ [(q, u ++ [s])], ?_, ht, ?_, by simpa using ho⟩
    · rw [hdL_snoc, hdL_snoc]
      show _ = flL t ++ (hdL l' ++ (q.fl ++ flL (u ++ [s])))
      rw [flL_app, flL_one]
      simp
    · intro x hx
      rcases List.mem_append.1 hx with hx | hx
      · exact hl x (List.mem_append_left _ hx)
      · simp only [List.mem_singleton] at hx
        subst hx
        have := hl (q, u) (by simp)
        exact ⟨this.1, plL_app this.2 ⟨hs, trivial⟩⟩
theorem TPart.open {zs : List Ins} {os : List VO} (h : TPart zs os) (q : Hd) (hq : q.pl) (o : VO) (ho : o.op = q.op) : TPart (zs ++ q.fl) (os ++ [o]) := by
  obtain ⟨t, l, rfl, ht, hl, he⟩ := h
  refine ⟨t, l ++ [(q, [])], ?_, ht, ?_, by simp [he, ho]⟩
  · rw [hdL_snoc]
    simp [flL]
  · intro x hx
    rcases List.mem_append.1 hx with hx | hx
    · exact hl x hx
    · simp only [List.mem_singleton] at hx
      subst hx
      exact ⟨hq, trivial⟩
/-- The last that is open. -/
theorem TPart.last {zs : List Ins} {os : List VO} {o : VO} (h : TPart zs (os ++ [o])) : ∃ (ys : List Ins) (q : Hd) (u : List St), zs = ys ++ (q.fl ++ flL u) ∧ q.pl ∧ plL u ∧ q.op = o.op ∧ TPart ys os := by
  obtain ⟨t, l, rfl, ht, hl, he⟩ := h
  rcases snoc_cases l with rfl | ⟨l', ⟨q, u⟩, rfl⟩
  · simp at he
  · simp only [List.map_append, List.map_cons, List.map_nil] at he
    have he' := List.append_inj' he rfl
    have hm := hl (q, u) (by simp)
    refine ⟨flL t ++ hdL l', q, u, by rw [hdL_snoc, List.append_assoc], hm.1, hm.2, ?_, t, l', rfl, ht, fun x hx => hl x (List.mem_append_left _ hx), he'.1⟩
    have := he'.2
    simp at this
    exact this.symm
theorem vOK_zero {x : Ins} (h : vOK x = true) (hx : x.1 = 21 ∨ x.1 = 22 ∨ x.1 = 23) : x = (x.1, 0) := by
  obtain ⟨o, a⟩ := x
  simp only [vOK, Bool.and_eq_true, decide_eq_true_iff] at h
  have : a = 0 := by
    rcases hx with rfl | rfl | rfl <;> simp [vLo, vHi] at h <;> omega
  rw [this]
theorem tlast_snoc {os : List VO} {o : VO} (h : os.getLast? = some o) : os = os.dropLast ++ [o] := by
  rcases snoc_cases os with rfl | ⟨a, x, rfl⟩
  · simp at h
  · simp at h
    simp [h]
/-- One instruction more. -/
theorem TPart.step {zs : List Ins} {w : VW} {kinds : List Int} {r : Int} {x : Ins} {i : Int} (h : TPart zs w.opn) (hx : vOK x = true) (hs : (vStep kinds r x i w).2 = 0) : TPart (zs ++ [x]) (vStep kinds r x i w).1.opn := by
  revert hs
  unfold vStep
  split
  · intro g; exact absurd g (by simp)
  split
  · intro g; exact absurd g (by simp)
  dsimp only
  split
  · rename_i _ _ g1; intro g; exact absurd g g1
  split
  · intro g; exact absurd g (by simp)
  split
  · rename_i hn
    generalize (vTake w.stk (vSign kinds x).1 w.floor).1 ++ (vSign kinds x).2 = st
    unfold vNest
    split
    · split
      · intro g; exact absurd g (by simp)
      · rename_i hop _
        intro _
        rcases hop with e | e
        · have hz := vOK_zero hx (.inl e)
          rw [hz, e]
          exact h.open .i trivial _ rfl
        · have : x = (24, x.2) := by rw [← e]
          rw [this]
          exact h.open (.r x.2) trivial ⟨i, 24, st⟩ rfl
    · rename_i hop
      dsimp only
      split
      · intro g; exact absurd g (by simp)
      · rename_i o ho
        have hos := tlast_snoc ho
        split
        · intro g; exact absurd g (by simp)
        · rename_i hel
          split
          · intro g; exact absurd g (by simp)
          · split
            · rename_i e
              intro _
              have hz := vOK_zero hx (.inr (.inl e))
              rw [hz, e]
              have hh := h
              rw [hos] at hh
              obtain ⟨ys, q, u, rfl, hq, hu, hqo, hy⟩ := hh.last
              have ho21 : o.op = 21 := by
                by_cases e21 : o.op = 21
                · exact e21
                · exact absurd ⟨e, e21⟩ hel
              cases q with
              | i =>
                have := hy.open (.e u) hu ⟨o.pos, 22, o.stk⟩ rfl
                simpa [Hd.fl] using this
              | e b => rw [ho21] at hqo; exact absurd hqo (by simp [Hd.op])
              | r n => rw [ho21] at hqo; exact absurd hqo (by simp [Hd.op])
            · rename_i e
              intro _
              have e23 : x.1 = 23 := by omega
              have hz := vOK_zero hx (.inr (.inr e23))
              rw [hz, e23]
              have hh := h
              rw [hos] at hh
              obtain ⟨ys, q, u, rfl, hq, hu, hqo, hy⟩ := hh.last
              cases q with
              | i =>
                have := hy.add (.br u) hu
                simpa [Hd.fl, St.fl] using this
              | e b =>
                have := hy.add (.be b u) ⟨hq, hu⟩
                simpa [Hd.fl, St.fl] using this
              | r n =>
                have := hy.add (.lp n u) hu
                simpa [Hd.fl, St.fl] using this
  · rename_i hn
    intro _
    exact h.add (.op x) hn
theorem TPart.run {kinds : List Int} {r : Int} : ∀ (xs zs : List Ins) (i : Nat) (w : VW), TPart zs w.opn → vAll xs = true → (vRun kinds r xs i w).2.1 = 0 → TPart (zs ++ xs) (vRun kinds r xs i w).1.opn
  | [], zs, i, w, h, _, _ => by simpa [vRun] using h
  | x :: xs, zs, i, w, h, ha, hr => by
    rw [vRun] at hr ⊢
    simp only [vAll, List.all_cons, Bool.and_eq_true] at ha
    by_cases g : (vStep kinds r x i w).2 = 0
    · rw [if_pos g] at hr ⊢
      have := TPart.run xs (zs ++ [x]) (i + 1) _ (h.step ha.1 g) ha.2 hr
      simpa using this
    · rw [if_neg g] at hr
      exact absurd hr g
/-- Accepted code is a list of statements. -/
theorem tree_of {code : List Ins} {kinds : List Int} {r : Int} (ha : vAll code = true) (h : (vVer code kinds r).2 = 0) : ∃ ts, flL ts = code ∧ plL ts := by
  have h1 := vVer_ok h
  have hp := TPart.run code [] 0 ⟨[], []⟩ TPart.nil ha h1.1
  have ho : (vRun kinds r code 0 ⟨[], []⟩).1.opn = [] := by
    unfold vVer at h
    dsimp only at h
    rw [if_neg (by rw [h1.1]; simp)] at h
    split at h
    · exact absurd h (by simp)
    · rename_i e
      exact List.getLast?_eq_none_iff.1 e
  rw [ho] at hp
  obtain ⟨t, l, e, ht, hl, he⟩ := hp
  have : l = [] := by cases l with
    | nil => rfl
    | cons a b => simp at he
  subst this
  refine ⟨t, ?_, ht⟩
  simpa [hdL] using e.symm
theorem vmg (x : Ins) (r : List Ins) (i : Int) (d : Nat) (o : Int) : vMatchGo (x :: r) i d o =
    if x.1 = 21 ∨ x.1 = 24 then vMatchGo r (i + 1) (d + 1) o
    else if x.1 = 22 then vMatchGo r (i + 1) d (if d = 0 then i else o)
    else if x.1 = 23 then (match d with | 0 => some (o, i) | e + 1 => vMatchGo r (i + 1) e o)
    else vMatchGo r (i + 1) d o := by
  cases d <;> rfl
mutual
theorem match_fl : ∀ (s : St) (rest : List Ins) (i : Int) (d : Nat) (o : Int), s.pl → vMatchGo (s.fl ++ rest) i d o = vMatchGo rest (i + s.fl.length) d o
  | .op x, rest, i, d, o, h => by
    rw [St.pl] at h
    rw [St.fl, List.singleton_append, vmg, if_neg (by omega), if_neg (by omega), if_neg (by omega)]
    rfl
  | .br b, rest, i, d, o, h => by
    rw [St.pl] at h
    rw [St.fl, List.cons_append, List.append_assoc, vmg, if_pos (.inl rfl), match_flL b _ _ _ _ h, List.singleton_append, vmg]
    simp
    congr 1
    omega
  | .be b f, rest, i, d, o, h => by
    rw [St.pl] at h
    rw [St.fl, List.cons_append, List.append_assoc, vmg, if_pos (.inl rfl), match_flL b _ _ _ _ h.1, List.cons_append, vmg, if_neg (by simp), if_pos rfl, if_neg (by simp), List.append_assoc, match_flL f _ _ _ _ h.2, List.singleton_append, vmg]
    simp
    congr 1
    omega
  | .lp n b, rest, i, d, o, h => by
    rw [St.pl] at h
    rw [St.fl, List.cons_append, List.append_assoc, vmg, if_pos (.inr rfl), match_flL b _ _ _ _ h, List.singleton_append, vmg]
    simp
    congr 1
    omega
/-- Nothing in closed statements is the else or the end of what is around them. -/
theorem match_flL : ∀ (ts : List St) (rest : List Ins) (i : Int) (d : Nat) (o : Int), plL ts → vMatchGo (flL ts ++ rest) i d o = vMatchGo rest (i + (flL ts).length) d o
  | [], rest, i, d, o, _ => by rw [flL, List.nil_append]; simp
  | s :: r, rest, i, d, o, h => by
    rw [plL] at h
    rw [flL, List.append_assoc, match_fl s _ _ _ _ h.1, match_flL r _ _ _ _ h.2, List.length_append]
    congr 1
    omega
end
theorem vMatch_at (a : List Ins) (x : Ins) (c : List Ins) : vMatch (a ++ x :: c) a.length = vMatchGo c (a.length + 1) 0 0 := by
  unfold vMatch
  have : (a ++ x :: c).drop (a.length + 1) = c := by rw [show a ++ x :: c = (a ++ [x]) ++ c by simp, show a.length + 1 = (a ++ [x]).length by simp, List.drop_left]
  rw [this]
theorem match_br {a c : List Ins} {b : List St} (h : plL b) : vMatch (a ++ ((21, 0) :: (flL b ++ [(23, 0)])) ++ c) a.length = some (0, (a.length : Int) + 1 + (flL b).length) := by
  rw [List.append_assoc, List.cons_append, vMatch_at, List.append_assoc, match_flL b _ _ _ _ h, List.singleton_append, vmg, if_neg (by simp), if_neg (by simp), if_pos rfl]
theorem match_be {a c : List Ins} {b f : List St} (h : plL b) (g : plL f) : vMatch (a ++ ((21, 0) :: (flL b ++ (22, 0) :: (flL f ++ [(23, 0)]))) ++ c) a.length = some ((a.length : Int) + 1 + (flL b).length, (a.length : Int) + 1 + (flL b).length + 1 + (flL f).length) := by
  rw [List.append_assoc, List.cons_append, vMatch_at, List.append_assoc, match_flL b _ _ _ _ h, List.cons_append, vmg, if_neg (by simp), if_pos rfl, if_pos rfl, List.append_assoc, match_flL f _ _ _ _ g, List.singleton_append, vmg, if_neg (by simp), if_neg (by simp), if_pos rfl]
theorem match_lp {a c : List Ins} {b : List St} {n : Int} (h : plL b) : vMatch (a ++ ((24, n) :: (flL b ++ [(23, 0)])) ++ c) a.length = some (0, (a.length : Int) + 1 + (flL b).length) := by
  rw [List.append_assoc, List.cons_append, vMatch_at, List.append_assoc, match_flL b _ _ _ _ h, List.singleton_append, vmg, if_neg (by simp), if_neg (by simp), if_pos rfl]
end Go.Proofs.YtppgknjpbfopjaaGreatDoor
namespace Go.Proofs.YtppgknjpbfopjaaGreatDoor
/-- A bound: in all, without a cut, up to the first, behind the last, between two. -/
structure SM where
  t : Int
  n : Int
  h : Int
  l : Int
  i : Int
theorem SM.eta {a b : SM} (h1 : a.t = b.t) (h2 : a.n = b.n) (h3 : a.h = b.h) (h4 : a.l = b.l) (h5 : a.i = b.i) : a = b := by
  cases a; cases b; simp_all
def pls (a b : Int) : Int := if a < 0 ∨ b < 0 then -1 else min (a + b) 2147483647
theorem pls_ge (a b : Int) : -1 ≤ pls a b := by unfold pls; split <;> omega
theorem pls_le (a b : Int) : pls a b ≤ 2147483647 := by unfold pls; split <;> omega
theorem pls_assoc (a b c : Int) : pls (pls a b) c = pls a (pls b c) := by
  unfold pls
  repeat' split
  all_goals omega
theorem pls_max (a b c : Int) (ha : -1 ≤ a) (hb : -1 ≤ b) : pls (max a b) c = max (pls a c) (pls b c) := by
  unfold pls
  repeat' split
  all_goals omega
theorem max_pls (a b c : Int) (hb : -1 ≤ b) (hc : -1 ≤ c) : pls a (max b c) = max (pls a b) (pls a c) := by
  unfold pls
  repeat' split
  all_goals omega
theorem pls_zero (a : Int) (h : -1 ≤ a ∧ a ≤ 2147483647) : pls a 0 = a := by unfold pls; split <;> omega
theorem zero_pls (a : Int) (h : -1 ≤ a ∧ a ≤ 2147483647) : pls 0 a = a := by unfold pls; split <;> omega
theorem pls_none (a : Int) : pls a (-1) = -1 := by unfold pls; rw [if_pos (by omega)]
theorem none_pls (a : Int) : pls (-1) a = -1 := by unfold pls; rw [if_pos (by omega)]
theorem pls_mono {a b c d : Int} (h : a ≤ c) (g : b ≤ d) : pls a b ≤ pls c d := by
  unfold pls
  repeat' split
  all_goals omega
def SM.ok (a : SM) : Prop := (0 ≤ a.t ∧ a.t ≤ 2147483647) ∧ (-1 ≤ a.n ∧ a.n ≤ a.t) ∧ (-1 ≤ a.h ∧ a.h ≤ a.t) ∧ (-1 ≤ a.l ∧ a.l ≤ a.t) ∧ (-1 ≤ a.i ∧ a.i ≤ a.t) ∧ (a.h < 0 ↔ a.l < 0) ∧ (a.h < 0 → 0 ≤ a.n ∧ a.i < 0)
instance (a : SM) : Decidable a.ok := by unfold SM.ok; infer_instance
def smOK (a : SM) : Bool := decide a.ok
def one (n : Int) (cut : Bool) : SM := if cut = true then ⟨n, -1, n, 0, -1⟩ else ⟨n, n, -1, -1, -1⟩
def beh (a b : SM) : SM := ⟨pls a.t b.t, pls a.n b.n, max a.h (pls a.n b.h), max b.l (pls a.l b.n), max (max a.i b.i) (pls a.l b.h)⟩
def eith (a b : SM) : SM := ⟨max a.t b.t, max a.n b.n, max a.h b.h, max a.l b.l, max a.i b.i⟩
def tims (a : SM) : Nat → SM
  | 0 => one 0 false
  | n + 1 => beh (tims a n) a
def longest (a : SM) : Int := max (max a.n a.h) (max a.l a.i)
theorem one_ok {n : Int} (h : 0 ≤ n ∧ n ≤ 2147483647) (c : Bool) : (one n c).ok := by
  unfold one SM.ok
  cases c <;> simp <;> omega
theorem beh_assoc {a b c : SM} (ha : a.ok) (hb : b.ok) (hc : c.ok) : beh (beh a b) c = beh a (beh b c) := by
  obtain ⟨a1, a2, a3, a4, a5, _⟩ := ha
  obtain ⟨b1, b2, b3, b4, b5, _⟩ := hb
  obtain ⟨c1, c2, c3, c4, c5, _⟩ := hc
  have p1 := pls_ge a.n b.h
  have p2 := pls_ge a.l b.n
  have p3 := pls_ge b.n c.h
  have p4 := pls_ge b.l c.n
  apply SM.eta
  · exact pls_assoc _ _ _
  · exact pls_assoc _ _ _
  · show max (max a.h (pls a.n b.h)) (pls (pls a.n b.n) c.h) = max a.h (pls a.n (max b.h (pls b.n c.h)))
    rw [max_pls _ _ _ (by omega) p3, pls_assoc]
    omega
  · show max c.l (pls (max b.l (pls a.l b.n)) c.n) = max (max c.l (pls b.l c.n)) (pls a.l (pls b.n c.n))
    rw [pls_max _ _ _ (by omega) p2, pls_assoc]
    omega
  · show max (max (max (max a.i b.i) (pls a.l b.h)) c.i) (pls (max b.l (pls a.l b.n)) c.h) = max (max a.i (max (max b.i c.i) (pls b.l c.h))) (pls a.l (max b.h (pls b.n c.h)))
    rw [pls_max _ _ _ (by omega) p2, max_pls _ _ _ (by omega) p3, pls_assoc]
    omega
theorem beh_ok {a b : SM} (ha : a.ok) (hb : b.ok) : (beh a b).ok := by
  obtain ⟨a1, a2, a3, a4, a5, a6, a7⟩ := ha
  obtain ⟨b1, b2, b3, b4, b5, b6, b7⟩ := hb
  have t : ∀ x y : Int, -1 ≤ x → x ≤ a.t → -1 ≤ y → y ≤ b.t → -1 ≤ pls x y ∧ pls x y ≤ pls a.t b.t := fun x y h1 h2 h3 h4 => ⟨pls_ge _ _, pls_mono h2 h4⟩
  have t1 := t a.n b.n (by omega) (by omega) (by omega) (by omega)
  have t2 := t a.n b.h (by omega) (by omega) (by omega) (by omega)
  have t3 := t a.l b.n (by omega) (by omega) (by omega) (by omega)
  have t4 := t a.l b.h (by omega) (by omega) (by omega) (by omega)
  have ta : a.t ≤ pls a.t b.t := by unfold pls; rw [if_neg (by omega)]; omega
  have tb : b.t ≤ pls a.t b.t := by unfold pls; rw [if_neg (by omega)]; omega
  have tt := pls_le a.t b.t
  have e1 : pls a.n b.n < 0 ↔ (a.n < 0 ∨ b.n < 0) := by unfold pls; split <;> omega
  have e2 : pls a.n b.h < 0 ↔ (a.n < 0 ∨ b.h < 0) := by unfold pls; split <;> omega
  have e3 : pls a.l b.n < 0 ↔ (a.l < 0 ∨ b.n < 0) := by unfold pls; split <;> omega
  have e4 : pls a.l b.h < 0 ↔ (a.l < 0 ∨ b.h < 0) := by unfold pls; split <;> omega
  clear t
  unfold SM.ok beh
  dsimp only
  generalize pls a.n b.n = x1 at *
  generalize pls a.n b.h = x2 at *
  generalize pls a.l b.n = x3 at *
  generalize pls a.l b.h = x4 at *
  generalize pls a.t b.t = x5 at *
  refine ⟨by omega, by omega, by omega, by omega, by omega, ?_, ?_⟩
  · constructor
    · intro h; omega
    · intro h; omega
  · intro h; omega
theorem eith_ok {a b : SM} (ha : a.ok) (hb : b.ok) : (eith a b).ok := by
  obtain ⟨a1, a2, a3, a4, a5, a6, a7⟩ := ha
  obtain ⟨b1, b2, b3, b4, b5, b6, b7⟩ := hb
  unfold SM.ok eith
  dsimp only
  refine ⟨by omega, by omega, by omega, by omega, by omega, ?_, ?_⟩
  · constructor
    · intro h; omega
    · intro h; omega
  · intro h; omega
theorem eith_comm (a b : SM) : eith a b = eith b a := by
  apply SM.eta <;> (show max _ _ = max _ _) <;> omega
theorem tims_ok {a : SM} (ha : a.ok) : ∀ n, (tims a n).ok
  | 0 => one_ok (by omega) false
  | n + 1 => beh_ok (tims_ok ha n) ha
theorem none_beh {a : SM} (ha : a.ok) : beh (one 0 false) a = a := by
  obtain ⟨a1, a2, a3, a4, a5, _⟩ := ha
  apply SM.eta
  · exact zero_pls _ (by omega)
  · exact zero_pls _ (by omega)
  · show max (-1) (pls 0 a.h) = a.h
    rw [zero_pls _ (by omega)]
    omega
  · show max a.l (pls (-1) a.n) = a.l
    rw [none_pls]
    omega
  · show max (max (-1) a.i) (pls (-1) a.h) = a.i
    rw [none_pls]
    omega
theorem beh_none {a : SM} (ha : a.ok) : beh a (one 0 false) = a := by
  obtain ⟨a1, a2, a3, a4, a5, _⟩ := ha
  apply SM.eta
  · exact pls_zero _ (by omega)
  · exact pls_zero _ (by omega)
  · show max a.h (pls a.n (-1)) = a.h
    rw [pls_none]
    omega
  · show max (-1) (pls a.l 0) = a.l
    rw [pls_zero _ (by omega)]
    omega
  · show max (max a.i (-1)) (pls a.l (-1)) = a.i
    rw [pls_none]
    omega
end Go.Proofs.YtppgknjpbfopjaaGreatDoor
namespace Go.Proofs.YtppgknjpbfopjaaGreatDoor
/-- The ticks of an operation. -/
def tick (op : Int) : Int := if op = 7 ∨ op = 8 ∨ op = 11 ∨ op = 18 ∨ op = 26 then 2 else if op = 12 then 4 else if op = 19 then 3 else 1
theorem tick_rng (op : Int) : 1 ≤ tick op ∧ tick op ≤ 4 := by
  unfold tick
  repeat' split
  all_goals omega
mutual
def St.cost (known : List SM) : St → SM
  | .op x => if x.1 = 26 then beh (one (tick x.1) false) (known.getD x.2.toNat (one 0 false)) else one (tick x.1) (decide (x.1 = 25))
  | .br b => beh (one 1 false) (eith (beh (costL known b (one 0 false)) (one 1 false)) (one 0 false))
  | .be b f => beh (one 1 false) (eith (beh (costL known b (one 0 false)) (one 1 false)) (beh (costL known f (one 0 false)) (one 1 false)))
  | .lp n b => beh (one 1 false) (tims (beh (costL known b (one 0 false)) (one 1 false)) n.toNat)
/-- What statements cost behind what has gone ahead of them. -/
def costL (known : List SM) : List St → SM → SM
  | [], out => out
  | s :: r, out => costL known r (beh out (s.cost known))
end
theorem known_ok {known : List SM} (h : ∀ a ∈ known, a.ok) (k : Nat) : (known.getD k (one 0 false)).ok := by
  rw [List.getD]
  cases e : known[k]? with
  | none => exact one_ok (by omega) false
  | some a => exact h a (List.mem_of_getElem? e)
mutual
theorem cost_ok {known : List SM} (h : ∀ a ∈ known, a.ok) : ∀ s : St, (s.cost known).ok
  | .op x => by
    have := tick_rng x.1
    rw [St.cost]
    split
    · exact beh_ok (one_ok (by omega) _) (known_ok h _)
    · exact one_ok (by omega) _
  | .br b => by
    rw [St.cost]
    exact beh_ok (one_ok (by omega) _) (eith_ok (beh_ok (costL_ok h b _ (one_ok (by omega) _)) (one_ok (by omega) _)) (one_ok (by omega) _))
  | .be b f => by
    rw [St.cost]
    exact beh_ok (one_ok (by omega) _) (eith_ok (beh_ok (costL_ok h b _ (one_ok (by omega) _)) (one_ok (by omega) _)) (beh_ok (costL_ok h f _ (one_ok (by omega) _)) (one_ok (by omega) _)))
  | .lp n b => by
    rw [St.cost]
    exact beh_ok (one_ok (by omega) _) (tims_ok (beh_ok (costL_ok h b _ (one_ok (by omega) _)) (one_ok (by omega) _)) _)
theorem costL_ok {known : List SM} (h : ∀ a ∈ known, a.ok) : ∀ (ts : List St) (o : SM), o.ok → (costL known ts o).ok
  | [], o, ho => by rw [costL]; exact ho
  | s :: r, o, ho => by rw [costL]; exact costL_ok h r _ (beh_ok ho (cost_ok h s))
end
/-- What has gone ahead stands in front. -/
theorem costL_front {known : List SM} (h : ∀ a ∈ known, a.ok) : ∀ (ts : List St) (o : SM), o.ok → costL known ts o = beh o (costL known ts (one 0 false))
  | [], o, ho => by rw [costL, costL, beh_none ho]
  | s :: r, o, ho => by
    have hs := cost_ok h s
    have h0 := one_ok (n := 0) (by omega) false
    rw [costL, costL, costL_front h r _ (beh_ok ho hs), costL_front h r (beh (one 0 false) (s.cost known)) (beh_ok h0 hs), none_beh hs, beh_assoc ho hs (costL_ok h r _ h0)]
theorem costL_cons {known : List SM} (h : ∀ a ∈ known, a.ok) (s : St) (r : List St) : costL known (s :: r) (one 0 false) = beh (s.cost known) (costL known r (one 0 false)) := by
  rw [costL, none_beh (cost_ok h s), costL_front h r _ (cost_ok h s)]
theorem costL_app {known : List SM} (h : ∀ a ∈ known, a.ok) : ∀ (a b : List St) (o : SM), costL known (a ++ b) o = costL known b (costL known a o)
  | [], b, o => by rw [List.nil_append, costL]
  | s :: r, b, o => by rw [List.cons_append, costL, costL, costL_app h r b]
/-- One bound is within another. -/
def SM.le (a b : SM) : Prop := a.t ≤ b.t ∧ a.n ≤ b.n ∧ a.h ≤ b.h ∧ a.l ≤ b.l ∧ a.i ≤ b.i
theorem SM.le_refl (a : SM) : a.le a := ⟨Int.le_refl _, Int.le_refl _, Int.le_refl _, Int.le_refl _, Int.le_refl _⟩
theorem SM.le.trans {a b c : SM} (h : a.le b) (g : b.le c) : a.le c := ⟨Int.le_trans h.1 g.1, Int.le_trans h.2.1 g.2.1, Int.le_trans h.2.2.1 g.2.2.1, Int.le_trans h.2.2.2.1 g.2.2.2.1, Int.le_trans h.2.2.2.2 g.2.2.2.2⟩
theorem max_le_max' {a b c d : Int} (h : a ≤ c) (g : b ≤ d) : max a b ≤ max c d := by omega
theorem beh_le {a b c d : SM} (h : a.le c) (g : b.le d) : (beh a b).le (beh c d) := by
  obtain ⟨h1, h2, h3, h4, h5⟩ := h
  obtain ⟨g1, g2, g3, g4, g5⟩ := g
  exact ⟨pls_mono h1 g1, pls_mono h2 g2, max_le_max' h3 (pls_mono h2 g3), max_le_max' g4 (pls_mono h4 g2), max_le_max' (max_le_max' h5 g5) (pls_mono h4 g3)⟩
theorem le_eith_left (a b : SM) : a.le (eith a b) := ⟨by show _ ≤ max _ _; omega, by show _ ≤ max _ _; omega, by show _ ≤ max _ _; omega, by show _ ≤ max _ _; omega, by show _ ≤ max _ _; omega⟩
theorem le_eith_right (a b : SM) : b.le (eith a b) := ⟨by show _ ≤ max _ _; omega, by show _ ≤ max _ _; omega, by show _ ≤ max _ _; omega, by show _ ≤ max _ _; omega, by show _ ≤ max _ _; omega⟩
/-- What a trace itself comes to: each event its ticks, and whether it is a cut. -/
def sumT : List (Int × Bool) → SM
  | [] => one 0 false
  | e :: r => beh (one e.1 e.2) (sumT r)
def okT (tr : List (Int × Bool)) : Prop := ∀ e ∈ tr, 0 ≤ e.1 ∧ e.1 ≤ 2147483647
theorem sumT_ok : ∀ {tr : List (Int × Bool)}, okT tr → (sumT tr).ok
  | [], _ => one_ok (by omega) false
  | e :: r, h => beh_ok (one_ok (h e (by simp)) _) (sumT_ok fun x hx => h x (by simp [hx]))
theorem sumT_app : ∀ {a b : List (Int × Bool)}, okT a → okT b → sumT (a ++ b) = beh (sumT a) (sumT b)
  | [], b, _, hb => by rw [List.nil_append, sumT, none_beh (sumT_ok hb)]
  | e :: r, b, ha, hb => by
    have hr : okT r := fun x hx => ha x (by simp [hx])
    rw [List.cons_append, sumT, sumT, sumT_app hr hb, beh_assoc (one_ok (ha e (by simp)) _) (sumT_ok hr) (sumT_ok hb)]
theorem sumT_one {e : Int × Bool} (h : 0 ≤ e.1 ∧ e.1 ≤ 2147483647) : sumT [e] = one e.1 e.2 := by rw [sumT, sumT, beh_none (one_ok h _)]
/-- The trace lies within the bound. -/
def Cov (a : SM) (tr : List (Int × Bool)) : Prop := okT tr ∧ (sumT tr).le a
theorem okT_app {a b : List (Int × Bool)} (h : okT a) (g : okT b) : okT (a ++ b) := fun x hx => by
  rcases List.mem_append.1 hx with hx | hx
  · exact h x hx
  · exact g x hx
theorem Cov.app {a b : SM} {x y : List (Int × Bool)} (h : Cov a x) (g : Cov b y) : Cov (beh a b) (x ++ y) :=
  ⟨okT_app h.1 g.1, by rw [sumT_app h.1 g.1]; exact beh_le h.2 g.2⟩
theorem Cov.nil : Cov (one 0 false) [] := ⟨by intro x hx; simp at hx, SM.le_refl _⟩
theorem Cov.one {n : Int} (c : Bool) (h : 0 ≤ n ∧ n ≤ 2147483647) : Cov (one n c) [(n, c)] :=
  ⟨by intro x hx; simp at hx; subst hx; exact h, by rw [sumT_one h]; exact SM.le_refl _⟩
theorem Cov.left {a b : SM} {x : List (Int × Bool)} (h : Cov a x) : Cov (eith a b) x := ⟨h.1, h.2.trans (le_eith_left a b)⟩
theorem Cov.right {a b : SM} {x : List (Int × Bool)} (h : Cov b x) : Cov (eith a b) x := ⟨h.1, h.2.trans (le_eith_right a b)⟩
/-- So many traces, one behind the other. -/
theorem Cov.times {a : SM} : ∀ {n : Nat} (f : Nat → List (Int × Bool)), (∀ i, i < n → Cov a (f i)) → Cov (tims a n) ((List.range n).flatMap f)
  | 0, f, _ => Cov.nil
  | n + 1, f, h => by
    rw [List.range_succ, List.flatMap_append, tims]
    refine (Cov.times f fun i hi => h i (by omega)).app ?_
    simpa using h n (by omega)
/-- How many ticks a trace takes. -/
def totT (tr : List (Int × Bool)) : Int := (tr.map (·.1)).sum
theorem totT_cons (e : Int × Bool) (r : List (Int × Bool)) : totT (e :: r) = e.1 + totT r := by simp [totT]
theorem totT_ge : ∀ {tr : List (Int × Bool)}, okT tr → 0 ≤ totT tr
  | [], _ => by simp [totT]
  | e :: r, h => by
    have h1 := h e (by simp)
    have h2 := totT_ge (tr := r) fun x hx => h x (by simp [hx])
    rw [totT_cons]
    omega
theorem sumT_t : ∀ {tr : List (Int × Bool)}, okT tr → (sumT tr).t = min (totT tr) 2147483647
  | [], _ => by
    show (0 : Int) = min (totT []) 2147483647
    simp [totT]
    omega
  | e :: r, h => by
    have h1 := h e (by simp)
    have hr : okT r := fun x hx => h x (by simp [hx])
    have h2 := totT_ge hr
    have h3 := sumT_t hr
    have h4 : (Go.Proofs.YtppgknjpbfopjaaGreatDoor.one e.1 e.2).t = e.1 := by unfold Go.Proofs.YtppgknjpbfopjaaGreatDoor.one; split <;> rfl
    rw [sumT, totT_cons]
    show pls (Go.Proofs.YtppgknjpbfopjaaGreatDoor.one e.1 e.2).t (sumT r).t = _
    rw [h3, h4]
    unfold pls
    rw [if_neg (by omega)]
    omega
/-- No trace within a bound takes longer than it, where the bound is no more than a value short of the greatest. -/
theorem Cov.total {a : SM} {tr : List (Int × Bool)} (h : Cov a tr) (ha : a.t < 2147483647) : totT tr ≤ a.t := by
  have h1 := sumT_t h.1
  have h2 := h.2.1
  omega
/-- The stretches between cuts, each with the cut that ends it; the last one is what is left (0 for none). -/
def blkT : List (Int × Bool) → Int → List Int
  | [], acc => [acc]
  | e :: r, acc => if e.2 = true then (acc + e.1) :: blkT r 0 else blkT r (acc + e.1)
theorem one_plus {a b : Int} (h : 0 ≤ a) (g : 0 ≤ b) (k : a + b ≤ 2147483647) : beh (one a false) (one b false) = one (a + b) false := by
  apply SM.eta
  · show pls a b = a + b
    unfold pls; rw [if_neg (by omega)]; omega
  · show pls a b = a + b
    unfold pls; rw [if_neg (by omega)]; omega
  · show max (-1) (pls a (-1)) = -1
    rw [pls_none]; omega
  · show max (-1) (pls (-1) b) = -1
    rw [none_pls]; omega
  · show max (max (-1) (-1)) (pls (-1) (-1)) = -1
    rw [pls_none]; omega
theorem blk_le : ∀ (tr : List (Int × Bool)) (acc : Int), okT tr → 0 ≤ acc → acc + totT tr ≤ 2147483647 → ∀ x ∈ blkT tr acc, x ≤ longest (beh (one acc false) (sumT tr))
  | [], acc, _, h0, hM, x, hx => by
    simp [totT] at hM
    rw [blkT, List.mem_singleton] at hx
    subst hx
    rw [sumT, beh_none (one_ok (by omega) false)]
    show x ≤ max (max x (-1)) (max (-1) (-1))
    omega
  | (n, c) :: r, acc, hok, h0, hM, x, hx => by
    have hn := hok (n, c) (by simp)
    have hr : okT r := fun y hy => hok y (by simp [hy])
    have hS := sumT_ok hr
    have ht := totT_ge hr
    rw [totT_cons] at hM
    dsimp only at hn hM
    rw [sumT]
    dsimp only
    cases c with
    | true =>
      rw [blkT, if_pos rfl] at hx
      obtain ⟨_, s2, s3, s4, s5, _⟩ := hS
      rcases List.mem_cons.1 hx with rfl | hx
      · have e1 : n ≤ (beh (one n true) (sumT r)).h := by show n ≤ max n _; omega
        have e2 : acc + n ≤ (beh (one acc false) (beh (one n true) (sumT r))).h := by
          show acc + n ≤ max (-1) (pls acc (beh (one n true) (sumT r)).h)
          have := pls_mono (Int.le_refl acc) e1
          have : pls acc n = acc + n := by unfold pls; rw [if_neg (by omega)]; omega
          omega
        unfold longest
        dsimp only
        omega
      · have ih := blk_le r 0 hr (by omega) (by omega) x hx
        rw [none_beh (sumT_ok hr)] at ih
        have a1 : (sumT r).n ≤ (beh (one n true) (sumT r)).l := by
          show _ ≤ max (sumT r).l (pls 0 (sumT r).n)
          rw [zero_pls _ (by have := (sumT_ok hr).1; omega)]
          omega
        have a2 : (sumT r).l ≤ (beh (one n true) (sumT r)).l := by show _ ≤ max (sumT r).l _; omega
        have a3 : (sumT r).h ≤ (beh (one n true) (sumT r)).i := by
          show _ ≤ max (max (-1) (sumT r).i) (pls 0 (sumT r).h)
          rw [zero_pls _ (by have := (sumT_ok hr).1; omega)]
          omega
        have a4 : (sumT r).i ≤ (beh (one n true) (sumT r)).i := by show _ ≤ max (max (-1) (sumT r).i) _; omega
        generalize beh (one n true) (sumT r) = T at *
        have b1 : T.l ≤ (beh (one acc false) T).l := by show _ ≤ max T.l _; omega
        have b2 : T.i ≤ (beh (one acc false) T).i := by show _ ≤ max (max (-1) T.i) _; omega
        unfold longest at *
        omega
    | false =>
      rw [blkT, if_neg (by simp)] at hx
      have ih := blk_le r (acc + n) hr (by omega) (by omega) x hx
      rw [← beh_assoc (one_ok (by omega) false) (one_ok hn false) hS, one_plus h0 hn.1 (by omega)]
      exact ih
theorem longest_mono {a b : SM} (h : a.le b) : longest a ≤ longest b := by
  obtain ⟨_, h2, h3, h4, h5⟩ := h
  unfold longest
  omega
/-- No stretch between cuts is longer than the longest of the bound. -/
theorem Cov.block {a : SM} {tr : List (Int × Bool)} (h : Cov a tr) (ha : a.t < 2147483647) : ∀ x ∈ blkT tr 0, x ≤ longest a := fun x hx => by
  have h1 := h.total ha
  have h2 := blk_le tr 0 h.1 (by omega) (by omega) x hx
  rw [none_beh (sumT_ok h.1)] at h2
  exact Int.le_trans h2 (longest_mono h.2)
end Go.Proofs.YtppgknjpbfopjaaGreatDoor
