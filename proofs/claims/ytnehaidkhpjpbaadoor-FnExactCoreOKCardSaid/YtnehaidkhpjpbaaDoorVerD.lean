/- The pieces of which drawn code is made: each is valid and leaves what it should. -/
import Derived.Test.YtnehaidkhpjpbaaDoorVer
namespace Go.Proofs.YtnehaidkhpjpbaaDoor
/-- The range of A. -/
def vLo (op : Int) : Int := if op = 1 then -2147483648 else if op = 24 then 1 else 0
def vHi (op : Int) : Int :=
  if op = 1 then 2147483647 else if op = 2 then 1 else if op = 3 ∨ op = 4 then 15 else if op = 5 ∨ op = 6 ∨ op = 7 ∨ op = 8 ∨ op = 19 ∨ op = 20 then 7 else if op = 24 then 20 else if op = 26 then 5 else 0
def vOK (x : Ins) : Bool := decide (1 ≤ x.1 ∧ x.1 ≤ 26) && decide (vLo x.1 ≤ x.2 ∧ x.2 ≤ vHi x.1)
def vAll (zs : List Ins) : Bool := zs.all vOK
theorem vAll_app (a b : List Ins) : vAll (a ++ b) = (vAll a && vAll b) := by simp [vAll]
theorem vAll_one (x : Ins) : vAll [x] = vOK x := by simp [vAll]
/-- A piece that leaves p, needs n places and d levels, and whose instructions are valid. -/
def Pc (kinds : List Int) (r : Int) (zs : List Ins) (p : List UInt8) (n d : Nat) : Prop := Frag kinds r zs p n d ∧ vAll zs = true
theorem Pc.more {kinds : List Int} {r : Int} {zs : List Ins} {p : List UInt8} {n d n' d' : Nat} (h : Pc kinds r zs p n d) (hn : n ≤ n') (hd : d ≤ d') : Pc kinds r zs p n' d' := ⟨h.1.more hn hd, h.2⟩
theorem Pc.nil (kinds : List Int) (r : Int) : Pc kinds r [] [] 0 0 := ⟨Frag.nil kinds r, rfl⟩
theorem Pc.app {kinds : List Int} {r : Int} {a b : List Ins} {p q : List UInt8} {n m d e : Nat} (h : Pc kinds r a p n d) (g : Pc kinds r b q m e) : Pc kinds r (a ++ b) (p ++ q) (max (max n p.length) (p.length + m)) (max d e) :=
  ⟨h.1.app g.1, by rw [vAll_app, h.2, g.2]; rfl⟩
theorem Pc.one {kinds : List Int} {r : Int} {x : Ins} {q : List UInt8} (hs : vSign kinds x = ([], q)) (hx : ¬ (21 ≤ x.1 ∧ x.1 ≤ 24)) (hk : ¬ ((x.1 = 19 ∨ x.1 = 20) ∧ (kinds.length : Int) ≤ x.2)) (hr : ¬ (x.1 = 26 ∧ r ≤ x.2)) (ho : vOK x = true) : Pc kinds r [x] q q.length 0 :=
  ⟨Frag.one hs hx hk hr, by rw [vAll_one]; exact ho⟩
theorem Pc.op {kinds : List Int} {r : Int} {x : Ins} {a : List Ins} {p t q : List UInt8} {n d : Nat} (h : Pc kinds r a (p ++ t) n d) (hs : vSign kinds x = (t, q)) (hx : ¬ (21 ≤ x.1 ∧ x.1 ≤ 24)) (hk : ¬ ((x.1 = 19 ∨ x.1 = 20) ∧ (kinds.length : Int) ≤ x.2)) (hr : ¬ (x.1 = 26 ∧ r ≤ x.2)) (ho : vOK x = true) :
    Pc kinds r (a ++ [x]) (p ++ q) (max n (p.length + q.length)) d := ⟨h.1.op hs hx hk hr, by rw [vAll_app, h.2, vAll_one, ho]; rfl⟩
theorem pc_push {kinds : List Int} {r v : Int} (h : -2147483648 ≤ v ∧ v ≤ 2147483647) : Pc kinds r [(1, v)] [105] 1 0 :=
  Pc.one (q := [105]) (by simp [vSign]) (by simp) (by simp) (by simp) (by simp [vOK, vLo, vHi]; exact h)
theorem pc_load {kinds : List Int} {r v : Int} (h : 0 ≤ v ∧ v ≤ 15) : Pc kinds r [(3, v)] [105] 1 0 :=
  Pc.one (q := [105]) (by simp [vSign]) (by simp) (by simp) (by simp) (by simp [vOK, vLo, vHi]; exact h)
theorem pc_value {kinds : List Int} {r v : Int} (h : 0 ≤ v ∧ v < kinds.length) (hk : kinds.length ≤ 8) : Pc kinds r [(20, v)] [105] 1 0 :=
  Pc.one (q := [105]) (by simp [vSign]) (by simp) (by simp; omega) (by simp) (by simp [vOK, vLo, vHi]; omega)
theorem pc_flag {kinds : List Int} {r v : Int} (h : 0 ≤ v ∧ v ≤ 1) : Pc kinds r [(2, v)] [98] 1 0 :=
  Pc.one (q := [98]) (by simp [vSign]) (by simp) (by simp) (by simp) (by simp [vOK, vLo, vHi]; exact h)
theorem pc_peek {kinds : List Int} {r v : Int} (h : 0 ≤ v ∧ v ≤ 7) : Pc kinds r [(7, v)] [98] 1 0 :=
  Pc.one (q := [98]) (by simp [vSign]) (by simp) (by simp) (by simp) (by simp [vOK, vLo, vHi]; exact h)
theorem pc_in {kinds : List Int} {r v : Int} (h : 0 ≤ v ∧ v ≤ 7) : Pc kinds r [(5, v)] [98] 1 0 :=
  Pc.one (q := [98]) (by simp [vSign]) (by simp) (by simp) (by simp) (by simp [vOK, vLo, vHi]; exact h)
theorem pc_cut {kinds : List Int} {r : Int} : Pc kinds r [(25, 0)] [] 0 0 :=
  Pc.one (q := []) (by simp [vSign]) (by simp) (by simp) (by simp) (by simp [vOK, vLo, vHi])
theorem pc_call {kinds : List Int} {r v : Int} (h : 0 ≤ v ∧ v < r) (hr : r ≤ 6) : Pc kinds r [(26, v)] [] 0 0 :=
  Pc.one (q := []) (by simp [vSign]) (by simp) (by simp) (by simp; omega) (by simp [vOK, vLo, vHi]; omega)
theorem pc_sel {kinds : List Int} {r : Int} {a b c : List Ins} (ha : Pc kinds r a [98] 1 0) (hb : Pc kinds r b [105] 1 0) (hc : Pc kinds r c [105] 1 0) : Pc kinds r (a ++ b ++ c ++ [(18, 0)]) [105] 3 0 := by
  have h := (ha.app hb).app hc
  have := Pc.op (p := []) (t := [98, 105, 105]) (q := [105]) (x := (18, 0)) h (by simp [vSign]) (by simp) (by simp) (by simp) (by simp [vOK, vLo, vHi])
  exact this.more (by simp) (by simp)
theorem pc_arith {kinds : List Int} {r k : Int} {a b : List Ins} (ha : Pc kinds r a [105] 3 0) (hb : Pc kinds r b [105] 1 0) (hk : k = 9 ∨ k = 10 ∨ k = 11 ∨ k = 12) : Pc kinds r (a ++ b ++ [(k, 0)]) [105] 3 0 := by
  have h := ha.app hb
  have := Pc.op (p := []) (t := [105, 105]) (q := [105]) (x := (k, 0)) h (by rcases hk with rfl | rfl | rfl | rfl <;> simp [vSign]) (by simp; omega) (by simp; omega) (by simp; omega) (by rcases hk with rfl | rfl | rfl | rfl <;> simp [vOK, vLo, vHi])
  exact this.more (by simp) (by simp)
theorem pc_comp {kinds : List Int} {r k : Int} {a b : List Ins} (ha : Pc kinds r a [105] 1 0) (hb : Pc kinds r b [105] 1 0) (hk : k = 13 ∨ k = 14) : Pc kinds r (a ++ b ++ [(k, 0)]) [98] 3 0 := by
  have h := ha.app hb
  have := Pc.op (p := []) (t := [105, 105]) (q := [98]) (x := (k, 0)) h (by rcases hk with rfl | rfl <;> simp [vSign]) (by simp; omega) (by simp; omega) (by simp; omega) (by rcases hk with rfl | rfl <;> simp [vOK, vLo, vHi])
  exact this.more (by simp) (by simp)
theorem pc_not {kinds : List Int} {r : Int} {a : List Ins} (ha : Pc kinds r a [98] 3 0) : Pc kinds r (a ++ [(17, 0)]) [98] 3 0 := by
  have := Pc.op (p := []) (t := [98]) (q := [98]) (x := (17, 0)) ha (by simp [vSign]) (by simp) (by simp) (by simp) (by simp [vOK, vLo, vHi])
  exact this.more (by simp) (by simp)
theorem pc_both {kinds : List Int} {r k : Int} {a b : List Ins} (ha : Pc kinds r a [98] 3 0) (hb : Pc kinds r b [98] 1 0) (hk : k = 15 ∨ k = 16) : Pc kinds r (a ++ b ++ [(k, 0)]) [98] 3 0 := by
  have h := ha.app hb
  have := Pc.op (p := []) (t := [98, 98]) (q := [98]) (x := (k, 0)) h (by rcases hk with rfl | rfl <;> simp [vSign]) (by simp; omega) (by simp; omega) (by simp; omega) (by rcases hk with rfl | rfl <;> simp [vOK, vLo, vHi])
  exact this.more (by simp) (by simp)
/-- What a function block takes, letter for letter. -/
theorem pc_takes {kinds : List Int} {r : Int} {a : List Ins} {t : List UInt8} {z : Ins} {b : UInt8} (ha : Pc kinds r a t t.length 0) (hb : Pc kinds r [z] [b] 1 0) : Pc kinds r (a ++ [z]) (t ++ [b]) (t ++ [b]).length 0 :=
  (ha.app hb).more (by simp) (by simp)
theorem tkL_len (k : Int) : (tkL k).length ≤ 3 := by
  unfold tkL
  split
  · decide
  · split
    · decide
    · split <;> decide
theorem pc_block {kinds : List Int} {r k : Int} {a : List Ins} (h : 0 ≤ k ∧ k < kinds.length) (hl : kinds.length ≤ 8) (ha : Pc kinds r a (tkL (kinds.getD k.toNat 0)) (tkL (kinds.getD k.toNat 0)).length 0) : Pc kinds r (a ++ [(19, k)]) [98] 3 0 := by
  have := Pc.op (p := []) (t := tkL (kinds.getD k.toNat 0)) (q := [98]) (x := (19, k)) ha (by simp [vSign]) (by simp) (by simp; omega) (by simp) (by simp [vOK, vLo, vHi]; omega)
  refine this.more ?_ (Nat.le_refl _)
  have h3 := tkL_len (kinds.getD k.toNat 0)
  show max (tkL (kinds.getD k.toNat 0)).length 1 ≤ 3
  omega
theorem pc_store {kinds : List Int} {r k : Int} {a : List Ins} (ha : Pc kinds r a [105] 3 0) (hk : 0 ≤ k ∧ k ≤ 15) : Pc kinds r (a ++ [(4, k)]) [] 3 0 := by
  have := Pc.op (p := []) (t := [105]) (q := []) (x := (4, k)) ha (by simp [vSign]) (by simp) (by simp) (by simp) (by simp [vOK, vLo, vHi]; exact hk)
  exact this.more (by simp) (by simp)
theorem pc_out {kinds : List Int} {r o k : Int} {a : List Ins} (ha : Pc kinds r a [98] 3 0) (ho : o = 6 ∨ o = 8) (hk : 0 ≤ k ∧ k ≤ 7) : Pc kinds r (a ++ [(o, k)]) [] 3 0 := by
  have := Pc.op (p := []) (t := [98]) (q := []) (x := (o, k)) ha (by rcases ho with rfl | rfl <;> simp [vSign]) (by simp; omega) (by simp; omega) (by simp; omega) (by rcases ho with rfl | rfl <;> simp [vOK, vLo, vHi] <;> exact hk)
  exact this.more (by simp) (by simp)
theorem pc_plain {kinds : List Int} {r : Int} : Pc kinds r ([(3, 0)] ++ [(1, 1)] ++ [(9, 0)] ++ [(4, 0)]) [] 3 0 :=
  pc_store (pc_arith ((pc_load (by omega)).more (by omega) (by omega)) (pc_push (by omega)) (.inl rfl)) (by omega)
theorem pc_branch {kinds : List Int} {r : Int} {c b : List Ins} {e : Nat} (h : Pc kinds r c [98] 3 0) (g : Pc kinds r b [] 3 e) : Pc kinds r (c ++ [(21, 0)] ++ b ++ [(23, 0)]) [] 3 (e + 1) :=
  ⟨(h.1.branch g.1).more (by omega) (by omega), by rw [vAll_app, vAll_app, vAll_app, h.2, g.2, vAll_one, vAll_one]; rfl⟩
theorem pc_twoways {kinds : List Int} {r : Int} {c b f : List Ins} {e : Nat} (h : Pc kinds r c [98] 3 0) (g : Pc kinds r b [] 3 e) (k : Pc kinds r f [] 3 e) : Pc kinds r (c ++ [(21, 0)] ++ b ++ [(22, 0)] ++ f ++ [(23, 0)]) [] 3 (e + 1) :=
  ⟨(h.1.both g.1 k.1).more (by omega) (by omega), by rw [vAll_app, vAll_app, vAll_app, vAll_app, vAll_app, h.2, g.2, k.2, vAll_one, vAll_one, vAll_one]; rfl⟩
theorem pc_loop {kinds : List Int} {r n : Int} {b : List Ins} {e : Nat} (g : Pc kinds r b [] 3 e) (hn : 1 ≤ n ∧ n ≤ 20) : Pc kinds r ([(24, n)] ++ b ++ [(23, 0)]) [] 3 (e + 1) :=
  ⟨g.1.loop, by rw [vAll_app, vAll_app, g.2, vAll_one, vAll_one]; simp [vOK, vLo, vHi]; exact hn⟩
theorem pc_seq {kinds : List Int} {r : Int} {a b : List Ins} {d : Nat} (h : Pc kinds r a [] 3 d) (g : Pc kinds r b [] 3 d) : Pc kinds r (a ++ b) [] 3 d :=
  (h.app g).more (by simp) (by omega)
/-- Code that is put together so is accepted. -/
theorem pc_accepted {kinds : List Int} {r : Int} {zs : List Ins} {d : Nat} (h : Pc kinds r zs [] 3 d) (hd : d ≤ 4) : vVer zs kinds r = (0, 0) := h.1.accepted (by omega) hd
end Go.Proofs.YtnehaidkhpjpbaaDoor
