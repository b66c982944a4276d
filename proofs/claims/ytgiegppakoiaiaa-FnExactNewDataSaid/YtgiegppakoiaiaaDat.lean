/- The state on which code operates: its six lists; the laws' sizes, copies, comparisons, marks. (Written by tools/gen_dat.py.) -/
import Derived.Test.YtgiegppakoiaiaaBits
import Derived.Lib.OwnKind
namespace Go.Proofs.Ytgiegppakoiaiaa
open Go.ChangeShapes Go.WideShapes Go.ChangeAt Go.RowKit
set_option linter.unusedVariables false
theorem dt_ri {a b : Int} (h : a = b) : Ending.returned (.int .i64 a) = .returned (.int .i64 b) := by rw [h]
structure Dat where
  gl : List Int
  bl : List FT
  la : List Bool
  pi : List Bool
  ou : List Bool
  wi : List Bool
  wr : Int
def Dat.n0 (D : Dat) : Nat := D.gl.length
def Dat.n1 (D : Dat) : Nat := D.bl.length
def Dat.n2 (D : Dat) : Nat := D.la.length
def Dat.n3 (D : Dat) : Nat := D.pi.length
def Dat.n4 (D : Dat) : Nat := D.ou.length
def Dat.n5 (D : Dat) : Nat := D.wi.length
/-- Where the lists lie, and their capacities. -/
structure DH where
  a0 : Option Addr
  a1 : Option Addr
  a2 : Option Addr
  a3 : Option Addr
  a4 : Option Addr
  a5 : Option Addr
  c0 : Nat
  c1 : Nat
  c2 : Nat
  c3 : Nat
  c4 : Nat
  c5 : Nat
abbrev dV (h : DH) (D : Dat) : Value := .agg #[.slice h.a0 D.n0 h.c0, .slice h.a1 D.n1 h.c1, .slice h.a2 D.n2 h.c2, .slice h.a3 D.n3 h.c3, .slice h.a4 D.n4 h.c4, .slice h.a5 D.n5 h.c5, .int .i64 D.wr]
abbrev dO (h : DH) (D : Dat) (t : TypeId) : Obj := .cells #[.slice h.a0 D.n0 h.c0, .slice h.a1 D.n1 h.c1, .slice h.a2 D.n2 h.c2, .slice h.a3 D.n3 h.c3, .slice h.a4 D.n4 h.c4, .slice h.a5 D.n5 h.c5, .int .i64 D.wr] t
/-- The lists lie where the value says. -/
structure DLies (w : World) (h : DH) (D : Dat) : Prop where
  gl : Lies w h.a0 (kC D.gl)
  bl : Lies w h.a1 (flat fC D.bl)
  la : Lies w h.a2 (flat bI D.la)
  pi : Lies w h.a3 (flat bI D.pi)
  ou : Lies w h.a4 (flat bI D.ou)
  wi : Lies w h.a5 (flat bI D.wi)
theorem DLies.below {B : Nat} {w w' : World} {h : DH} {D : Dat} (l : DLies w h D) (g : Below B w w') (hB : w.heap.size ≤ B) : DLies w' h D :=
  ⟨l.gl.below g hB, l.bl.below g hB, l.la.below g hB, l.pi.below g hB, l.ou.below g hB, l.wi.below g hB⟩
structure Dat.le (D : Dat) (n : Nat) : Prop where
  h0 : D.n0 ≤ n
  h1 : D.n1 ≤ n
  h2 : D.n2 ≤ n
  h3 : D.n3 ≤ n
  h4 : D.n4 ≤ n
  h5 : D.n5 ≤ n
/-- Two rows in two blocks. -/
def Dis (a b : Option Addr) : Prop := ∀ x y, a = some x → b = some y → x.block ≠ y.block
theorem Dis.symm {a b : Option Addr} (h : Dis a b) : Dis b a := fun x y hx hy e => h y x hy hx e.symm
theorem Dis.own {a b : Option Addr} (h : Dis a b) (n c m d : Nat) : Value.ownBlock (.slice a n c) = none ∨ Value.ownBlock (.slice a n c) ≠ Value.ownBlock (.slice b m d) := by
  cases a with
  | none => exact .inl rfl
  | some x =>
    cases b with
    | none => exact .inr (by simp [Value.ownBlock])
    | some y => exact .inr (by have := h x y rfl rfl; simpa [Value.ownBlock] using this)
/-- A row in new memory, and one that was there. -/
theorem dis_new {w w' : World} {B size n c size' n' c' : Nat} {e e' : TypeId} {a b : Option Addr} {xs ys : List Value} (h : w.ownsRow B e size (.slice a n c) n xs) (h' : w'.ownsRow w.heap.size e' size' (.slice b n' c') n' ys) : Dis a b := fun x y hx hy e0 => by
  have h1 := (h.lt x.block (by rw [hx]; rfl)).2
  have h2 := (h'.lt y.block (by rw [hy]; rfl)).1
  omega
theorem dis_ge {w w' : World} {B B' size n c size' n' c' : Nat} {e e' : TypeId} {a b : Option Addr} {xs ys : List Value} (h : w.ownsRow B e size (.slice a n c) n xs) (h' : w'.ownsRow B' e' size' (.slice b n' c') n' ys) (hB : w.heap.size ≤ B') : Dis a b := fun x y hx hy e0 => by
  have h1 := (h.lt x.block (by rw [hx]; rfl)).2
  have h2 := (h'.lt y.block (by rw [hy]; rfl)).1
  omega
/-- Rows of elements of two types. -/
theorem dis_type {w : World} {B size n c B' size' n' c' : Nat} {e e' : TypeId} {a b : Option Addr} {xs ys : List Value} (h : w.ownsRow B e size (.slice a n c) n xs) (h' : w.ownsRow B' e' size' (.slice b n' c') n' ys) (ht : e ≠ e') : Dis a b := fun x y hx hy e0 => by
  obtain ⟨c1, f1, g1⟩ := Lib.ownsRow_kind h x.block (by rw [hx]; rfl)
  obtain ⟨c2, f2, g2⟩ := Lib.ownsRow_kind h' y.block (by rw [hy]; rfl)
  rw [e0, g2] at g1
  simp only [Option.some.injEq, Obj.cells.injEq] at g1
  exact ht g1.2.1.symm
/-- The lists are the call's own, each in its own block. -/
structure DOwn (B : Nat) (h : DH) (D : Dat) (w : World) : Prop where
  gl : w.ownsRow B 3 1 (.slice h.a0 D.n0 h.c0) D.n0 (kC D.gl)
  bl : w.ownsRow B 37 4 (.slice h.a1 D.n1 h.c1) D.n1 (flat fC D.bl)
  la : w.ownsRow B 4 1 (.slice h.a2 D.n2 h.c2) D.n2 (flat bI D.la)
  pi : w.ownsRow B 4 1 (.slice h.a3 D.n3 h.c3) D.n3 (flat bI D.pi)
  ou : w.ownsRow B 4 1 (.slice h.a4 D.n4 h.c4) D.n4 (flat bI D.ou)
  wi : w.ownsRow B 4 1 (.slice h.a5 D.n5 h.c5) D.n5 (flat bI D.wi)
  d01 : Dis h.a0 h.a1
  d02 : Dis h.a0 h.a2
  d03 : Dis h.a0 h.a3
  d04 : Dis h.a0 h.a4
  d05 : Dis h.a0 h.a5
  d12 : Dis h.a1 h.a2
  d13 : Dis h.a1 h.a3
  d14 : Dis h.a1 h.a4
  d15 : Dis h.a1 h.a5
  d23 : Dis h.a2 h.a3
  d24 : Dis h.a2 h.a4
  d25 : Dis h.a2 h.a5
  d34 : Dis h.a3 h.a4
  d35 : Dis h.a3 h.a5
  d45 : Dis h.a4 h.a5
theorem DOwn.lies {B : Nat} {h : DH} {D : Dat} {w : World} (o : DOwn B h D w) : DLies w h D := ⟨lies_own o.gl, lies_own o.bl, lies_own o.la, lies_own o.pi, lies_own o.ou, lies_own o.wi⟩
theorem DOwn.bel {B : Nat} {h : DH} {D : Dat} {w w' : World} (o : DOwn B h D w) (hb : Below w.heap.size w w') : DOwn B h D w' := ⟨own_bl o.gl hb, own_bl o.bl hb, own_bl o.la hb, own_bl o.pi hb, own_bl o.ou hb, own_bl o.wi hb, o.d01, o.d02, o.d03, o.d04, o.d05, o.d12, o.d13, o.d14, o.d15, o.d23, o.d24, o.d25, o.d34, o.d35, o.d45⟩
/-- Between two block numbers much may have changed; below, and from the second on, nothing. -/
structure Mid (lo hi : Nat) (w w' : World) : Prop where
  os : w'.os = w.os
  tape : w'.tape = w.tape
  output : w'.output = w.output
  size : w.heap.size ≤ w'.heap.size
  block : ∀ k, k < w.heap.size → (k < lo ∨ hi ≤ k) → w'.heap[k]? = w.heap[k]?
theorem Mid.refl (lo hi : Nat) (w : World) : Mid lo hi w w := ⟨rfl, rfl, rfl, Nat.le_refl _, fun _ _ _ => rfl⟩
theorem Mid.trans {lo hi : Nat} {a b c : World} (h : Mid lo hi a b) (g : Mid lo hi b c) : Mid lo hi a c :=
  ⟨g.os.trans h.os, g.tape.trans h.tape, g.output.trans h.output, Nat.le_trans h.size g.size, fun k hk hr => (g.block k (Nat.lt_of_lt_of_le hk h.size) hr).trans (h.block k hk hr)⟩
theorem Mid.of_grown {lo hi : Nat} {w w' : World} {row : Option Nat} (h : w.grownBy w' row) (hr : ∀ g, row = some g → lo ≤ g ∧ g < hi) : Mid lo hi w w' :=
  ⟨h.os, h.tape, h.output, h.size, fun k hk hk2 => h.block k hk (fun e => by have := hr k e.symm; omega)⟩
theorem Mid.of_bel {lo hi : Nat} {w w' : World} (h : Below w.heap.size w w') : Mid lo hi w w' := ⟨h.os, h.tape, h.output, h.size, fun k hk _ => h.block k hk⟩
theorem Mid.below {lo hi : Nat} {w w' : World} (h : Mid lo hi w w') (hl : lo ≤ w.heap.size) : Below lo w w' := ⟨h.os, h.tape, h.output, h.size, fun k hk => h.block k (Nat.lt_of_lt_of_le hk hl) (.inl hk)⟩
theorem Mid.at {lo hi k : Nat} {w w' : World} {O : Obj} (h : Mid lo hi w w') (g : w.heap[k]? = some O) (hk : k < lo ∨ hi ≤ k) : w'.heap[k]? = some O := (h.block k (Array.getElem?_eq_some_iff.1 g).1 hk).trans g
/-- A row elsewhere. -/
theorem Mid.own {lo hi B size n c : Nat} {e : TypeId} {a : Option Addr} {xs : List Value} {w w' : World} (h : Mid lo hi w w') (o : w.ownsRow B e size (.slice a n c) n xs) (hk : ∀ x, a = some x → x.block < lo ∨ hi ≤ x.block) : w'.ownsRow B e size (.slice a n c) n xs := by
  refine ⟨o.1, ?_⟩
  rcases o.2 with h0 | ⟨g, cap, cur, h1, h2, h3, h4⟩
  · exact .inl h0
  · simp only [Value.slice.injEq] at h1
    refine .inr ⟨g, cap, cur, by rw [h1.1, h1.2.2], h2, h.at h3 (hk _ h1.1), h4⟩
theorem Mid.lies {lo hi : Nat} {a : Option Addr} {cs : List Value} {w w' : World} (h : Mid lo hi w w') (o : Lies w a cs) (hk : ∀ x, a = some x → x.block < lo ∨ hi ≤ x.block) : Lies w' a cs := by
  rcases o with o | ⟨b, q, e, o⟩
  · exact .inl o
  · exact .inr ⟨b, q, e, fun j v hj => (World.cell?_of_block (h.block b (cells_lt (o j v hj)) (hk _ e))).trans (o j v hj)⟩
/-- All lists lie ahead of this block, or from it on. -/
structure DH.lt (h : DH) (B : Nat) : Prop where
  k0 : ∀ x, h.a0 = some x → x.block < B
  k1 : ∀ x, h.a1 = some x → x.block < B
  k2 : ∀ x, h.a2 = some x → x.block < B
  k3 : ∀ x, h.a3 = some x → x.block < B
  k4 : ∀ x, h.a4 = some x → x.block < B
  k5 : ∀ x, h.a5 = some x → x.block < B
structure DH.ge (h : DH) (B : Nat) : Prop where
  k0 : ∀ x, h.a0 = some x → B ≤ x.block
  k1 : ∀ x, h.a1 = some x → B ≤ x.block
  k2 : ∀ x, h.a2 = some x → B ≤ x.block
  k3 : ∀ x, h.a3 = some x → B ≤ x.block
  k4 : ∀ x, h.a4 = some x → B ≤ x.block
  k5 : ∀ x, h.a5 = some x → B ≤ x.block
theorem DOwn.hlt {B : Nat} {h : DH} {D : Dat} {w : World} (o : DOwn B h D w) : h.lt w.heap.size :=
  ⟨fun x e => (o.gl.lt x.block (by rw [e]; rfl)).2, fun x e => (o.bl.lt x.block (by rw [e]; rfl)).2, fun x e => (o.la.lt x.block (by rw [e]; rfl)).2, fun x e => (o.pi.lt x.block (by rw [e]; rfl)).2, fun x e => (o.ou.lt x.block (by rw [e]; rfl)).2, fun x e => (o.wi.lt x.block (by rw [e]; rfl)).2⟩
theorem DOwn.hge {B : Nat} {h : DH} {D : Dat} {w : World} (o : DOwn B h D w) : h.ge B :=
  ⟨fun x e => (o.gl.lt x.block (by rw [e]; rfl)).1, fun x e => (o.bl.lt x.block (by rw [e]; rfl)).1, fun x e => (o.la.lt x.block (by rw [e]; rfl)).1, fun x e => (o.pi.lt x.block (by rw [e]; rfl)).1, fun x e => (o.ou.lt x.block (by rw [e]; rfl)).1, fun x e => (o.wi.lt x.block (by rw [e]; rfl)).1⟩
theorem Mid.down {lo hi B : Nat} {h : DH} {D : Dat} {w w' : World} (m : Mid lo hi w w') (o : DOwn B h D w) (hk : h.lt lo ∨ h.ge hi) : DOwn B h D w' := by
  rcases hk with k | k
  · exact ⟨m.own o.gl (fun x e => .inl (k.k0 x e)), m.own o.bl (fun x e => .inl (k.k1 x e)), m.own o.la (fun x e => .inl (k.k2 x e)), m.own o.pi (fun x e => .inl (k.k3 x e)), m.own o.ou (fun x e => .inl (k.k4 x e)), m.own o.wi (fun x e => .inl (k.k5 x e)), o.d01, o.d02, o.d03, o.d04, o.d05, o.d12, o.d13, o.d14, o.d15, o.d23, o.d24, o.d25, o.d34, o.d35, o.d45⟩
  · exact ⟨m.own o.gl (fun x e => .inr (k.k0 x e)), m.own o.bl (fun x e => .inr (k.k1 x e)), m.own o.la (fun x e => .inr (k.k2 x e)), m.own o.pi (fun x e => .inr (k.k3 x e)), m.own o.ou (fun x e => .inr (k.k4 x e)), m.own o.wi (fun x e => .inr (k.k5 x e)), o.d01, o.d02, o.d03, o.d04, o.d05, o.d12, o.d13, o.d14, o.d15, o.d23, o.d24, o.d25, o.d34, o.d35, o.d45⟩
theorem Mid.dlies {lo hi : Nat} {h : DH} {D : Dat} {w w' : World} (m : Mid lo hi w w') (o : DLies w h D) (hk : h.lt lo ∨ h.ge hi) : DLies w' h D := by
  rcases hk with k | k
  · exact ⟨m.lies o.gl (fun x e => .inl (k.k0 x e)), m.lies o.bl (fun x e => .inl (k.k1 x e)), m.lies o.la (fun x e => .inl (k.k2 x e)), m.lies o.pi (fun x e => .inl (k.k3 x e)), m.lies o.ou (fun x e => .inl (k.k4 x e)), m.lies o.wi (fun x e => .inl (k.k5 x e))⟩
  · exact ⟨m.lies o.gl (fun x e => .inr (k.k0 x e)), m.lies o.bl (fun x e => .inr (k.k1 x e)), m.lies o.la (fun x e => .inr (k.k2 x e)), m.lies o.pi (fun x e => .inr (k.k3 x e)), m.lies o.ou (fun x e => .inr (k.k4 x e)), m.lies o.wi (fun x e => .inr (k.k5 x e))⟩
theorem eqData_same (h h' : DH) (D : Dat) (hn : D.le 1048576) (w : World) (hz : DLies w h D) (hy : DLies w h' D) :
    Calls Try.prog 7 #[dV h D, dV h' D] w fun e w' => e = .returned (.bool true) ∧ Below w.heap.size w w' := by
  have HB : Hid (∀ O O' : Obj, Below w.heap.size w ((w.alloc O).alloc O')) := Lib.hid (fun O O' => ((Below.refl w.heap.size w).alloc (Nat.le_refl _) O).alloc (by simp) O')
  have HZ := Lib.hid hz
  have HY := Lib.hid hy
  have HE0 := Lib.hid (fun w hz hy => eqIntS_same D.gl h.a0 h'.a0 h.c0 h'.c0 hn.h0 w hz hy)
  have HE1 := Lib.hid (fun w hz hy => eqFbS_same D.bl h.a1 h'.a1 h.c1 h'.c1 hn.h1 w hz hy)
  have HE2 := Lib.hid (fun w hz hy => eqBoolS_same D.la h.a2 h'.a2 h.c2 h'.c2 hn.h2 w hz hy)
  have HE3 := Lib.hid (fun w hz hy => eqBoolS_same D.pi h.a3 h'.a3 h.c3 h'.c3 hn.h3 w hz hy)
  have HE4 := Lib.hid (fun w hz hy => eqBoolS_same D.ou h.a4 h'.a4 h.c4 h'.c4 hn.h4 w hz hy)
  have HE5 := Lib.hid (fun w hz hy => eqBoolS_same D.wi h.a5 h'.a5 h.c5 h'.c5 hn.h5 w hz hy)
  have h1 : (D.wr != D.wr) = false := by simp
  clear hz hy
  go_enter Try.func7, Try.ntmps7
  go_wp2_with fail
  refine Calls.mono (HE0.out _ ((HZ.out.below (HB.out _ _) (Nat.le_refl _)).gl) ((HY.out.below (HB.out _ _) (Nat.le_refl _)).gl)) ?_
  rintro e w1 ⟨rfl, hb1⟩
  have Hb0 := Lib.hid ((HB.out _ _).trans (hb1.mono (HB.out _ _).size))
  have K1 := Lib.hid (show w1.heap[w.heap.size]? = some (dO h D 26) ∧ w1.heap[w.heap.size + 1]? = some (dO h' D 26) from ⟨(hb1.block w.heap.size (by simp; omega)).trans (heap_alloc2_old w _ _), (hb1.block (w.heap.size + 1) (by simp)).trans (heap_alloc2_new w _ _)⟩)
  clear hb1
  have q0 := cell_of_row w1 w.heap.size 1 _ _ _ K1.out.1
  have q1 := cell_of_row w1 (w.heap.size + 1) 1 _ _ _ K1.out.2
  go_wp2_with fail
  refine Calls.mono (HE1.out _ ((HZ.out.below Hb0.out (Nat.le_refl _)).bl) ((HY.out.below Hb0.out (Nat.le_refl _)).bl)) ?_
  rintro e w2 ⟨rfl, hb2⟩
  have Hb1 := Lib.hid (Hb0.out.trans (hb2.mono Hb0.out.size))
  have K2 := Lib.hid (show w2.heap[w.heap.size]? = some (dO h D 26) ∧ w2.heap[w.heap.size + 1]? = some (dO h' D 26) from ⟨(hb2.block w.heap.size (Array.getElem?_eq_some_iff.1 K1.out.1).1).trans K1.out.1, (hb2.block (w.heap.size + 1) (Array.getElem?_eq_some_iff.1 K1.out.2).1).trans K1.out.2⟩)
  clear hb2
  have q0 := cell_of_row w2 w.heap.size 2 _ _ _ K2.out.1
  have q1 := cell_of_row w2 (w.heap.size + 1) 2 _ _ _ K2.out.2
  go_wp2_with fail
  refine Calls.mono (HE2.out _ ((HZ.out.below Hb1.out (Nat.le_refl _)).la) ((HY.out.below Hb1.out (Nat.le_refl _)).la)) ?_
  rintro e w3 ⟨rfl, hb3⟩
  have Hb2 := Lib.hid (Hb1.out.trans (hb3.mono Hb1.out.size))
  have K3 := Lib.hid (show w3.heap[w.heap.size]? = some (dO h D 26) ∧ w3.heap[w.heap.size + 1]? = some (dO h' D 26) from ⟨(hb3.block w.heap.size (Array.getElem?_eq_some_iff.1 K2.out.1).1).trans K2.out.1, (hb3.block (w.heap.size + 1) (Array.getElem?_eq_some_iff.1 K2.out.2).1).trans K2.out.2⟩)
  clear hb3
  have q0 := cell_of_row w3 w.heap.size 3 _ _ _ K3.out.1
  have q1 := cell_of_row w3 (w.heap.size + 1) 3 _ _ _ K3.out.2
  go_wp2_with fail
  refine Calls.mono (HE3.out _ ((HZ.out.below Hb2.out (Nat.le_refl _)).pi) ((HY.out.below Hb2.out (Nat.le_refl _)).pi)) ?_
  rintro e w4 ⟨rfl, hb4⟩
  have Hb3 := Lib.hid (Hb2.out.trans (hb4.mono Hb2.out.size))
  have K4 := Lib.hid (show w4.heap[w.heap.size]? = some (dO h D 26) ∧ w4.heap[w.heap.size + 1]? = some (dO h' D 26) from ⟨(hb4.block w.heap.size (Array.getElem?_eq_some_iff.1 K3.out.1).1).trans K3.out.1, (hb4.block (w.heap.size + 1) (Array.getElem?_eq_some_iff.1 K3.out.2).1).trans K3.out.2⟩)
  clear hb4
  have q0 := cell_of_row w4 w.heap.size 4 _ _ _ K4.out.1
  have q1 := cell_of_row w4 (w.heap.size + 1) 4 _ _ _ K4.out.2
  go_wp2_with fail
  refine Calls.mono (HE4.out _ ((HZ.out.below Hb3.out (Nat.le_refl _)).ou) ((HY.out.below Hb3.out (Nat.le_refl _)).ou)) ?_
  rintro e w5 ⟨rfl, hb5⟩
  have Hb4 := Lib.hid (Hb3.out.trans (hb5.mono Hb3.out.size))
  have K5 := Lib.hid (show w5.heap[w.heap.size]? = some (dO h D 26) ∧ w5.heap[w.heap.size + 1]? = some (dO h' D 26) from ⟨(hb5.block w.heap.size (Array.getElem?_eq_some_iff.1 K4.out.1).1).trans K4.out.1, (hb5.block (w.heap.size + 1) (Array.getElem?_eq_some_iff.1 K4.out.2).1).trans K4.out.2⟩)
  clear hb5
  have q0 := cell_of_row w5 w.heap.size 5 _ _ _ K5.out.1
  have q1 := cell_of_row w5 (w.heap.size + 1) 5 _ _ _ K5.out.2
  go_wp2_with fail
  refine Calls.mono (HE5.out _ ((HZ.out.below Hb4.out (Nat.le_refl _)).wi) ((HY.out.below Hb4.out (Nat.le_refl _)).wi)) ?_
  rintro e w6 ⟨rfl, hb6⟩
  have Hb5 := Lib.hid (Hb4.out.trans (hb6.mono Hb4.out.size))
  have K6 := Lib.hid (show w6.heap[w.heap.size]? = some (dO h D 26) ∧ w6.heap[w.heap.size + 1]? = some (dO h' D 26) from ⟨(hb6.block w.heap.size (Array.getElem?_eq_some_iff.1 K5.out.1).1).trans K5.out.1, (hb6.block (w.heap.size + 1) (Array.getElem?_eq_some_iff.1 K5.out.2).1).trans K5.out.2⟩)
  clear hb6
  have q0 := cell_of_row w6 w.heap.size 6 _ _ _ K6.out.1
  have q1 := cell_of_row w6 (w.heap.size + 1) 6 _ _ _ K6.out.2
  go_wp2
  go_ret
  exact ⟨rfl, Hb5.out⟩
/-- What mark leaves. -/
def markD (m : Int) (D : Dat) : Dat :=
  ⟨marksI m D.n0, marksF (m + D.n0) D.n1, marksB (m + D.n0 + 4 * D.n1) D.n2, marksB (m + D.n0 + 4 * D.n1 + D.n2) D.n3, marksB (m + D.n0 + 4 * D.n1 + D.n2 + D.n3) D.n4, marksB (m + D.n0 + 4 * D.n1 + D.n2 + D.n3 + D.n4) D.n5, D.wr⟩
theorem markD_n (m : Int) (D : Dat) : (markD m D).n0 = D.n0 ∧ (markD m D).n1 = D.n1 ∧ (markD m D).n2 = D.n2 ∧ (markD m D).n3 = D.n3 ∧ (markD m D).n4 = D.n4 ∧ (markD m D).n5 = D.n5 :=
  ⟨marksI_len _ _, marksF_len _ _, marksB_len _ _, marksB_len _ _, marksB_len _ _, marksB_len _ _⟩
theorem markD_le {m : Int} {D : Dat} {n : Nat} (h : D.le n) : (markD m D).le n := by
  obtain ⟨e0, e1, e2, e3, e4, e5⟩ := markD_n m D
  exact ⟨e0 ▸ h.h0, e1 ▸ h.h1, e2 ▸ h.h2, e3 ▸ h.h3, e4 ▸ h.h4, e5 ▸ h.h5⟩
/-- How many marks it takes. -/
def Dat.sum (D : Dat) : Int := D.n0 + 4 * D.n1 + D.n2 + D.n3 + D.n4 + D.n5
theorem sum_le {D : Dat} (h : D.le 1048576) : 0 ≤ D.sum ∧ D.sum ≤ 10000000 := by
  obtain ⟨h0, h1, h2, h3, h4, h5⟩ := h
  unfold Dat.sum
  omega
theorem dV_mark (h : DH) (m : Int) (D : Dat) : dV h (markD m D) = dV h D := by
  obtain ⟨e0, e1, e2, e3, e4, e5⟩ := markD_n m D
  unfold dV
  rw [e0, e1, e2, e3, e4, e5]
  rfl
def MarkDPost (B lo hi : Nat) (h : DH) (D : Dat) (m : Int) (w : World) (e : Ending) (w' : World) : Prop :=
  e = .returned (.int .i64 (m + D.sum)) ∧ DOwn B h (markD m D) w' ∧ Mid lo hi w w' ∧ Below B w w'
theorem blk_in {h : Option Addr} {lo hi n c : Nat} (h1 : ∀ x, h = some x → lo ≤ x.block) (h2 : ∀ x, h = some x → x.block < hi) : ∀ g, Value.ownBlock (.slice h n c) = some g → lo ≤ g ∧ g < hi := by
  intro g hg
  cases h with
  | none => cases hg
  | some x =>
    simp only [Value.ownBlock, Option.some.injEq] at hg
    subst hg
    exact ⟨h1 x rfl, h2 x rfl⟩
set_option maxHeartbeats 1000000 in
theorem markData_own (B hi : Nat) (h : DH) (D : Dat) (m : Int) (hm : 0 ≤ m ∧ m ≤ 900000000) (hn : D.le 1048576) (w : World) (hB : B ≤ w.heap.size) (ho : DOwn B h D w) (hlt : h.lt hi) (hhi : hi ≤ w.heap.size) :
    Calls Try.prog 10 #[dV h D, .int .i64 m] w (MarkDPost B B hi h D m w) := by
  have hge := ho.hge
  obtain ⟨b0, b1, b2, b3, b4, b5⟩ := hn
  have HA := Lib.hid ((Below.refl w.heap.size w).alloc (Nat.le_refl _) (dO h D 26))
  have HO := Lib.hid (ho.bel HA.out)
  have HQ := Lib.hid hlt
  have HG := Lib.hid hge
  have HLo := Lib.hid hhi
  have HBw := Lib.hid hB
  have HK := Lib.hid (heap_alloc_new w (dO h D 26))
  have HS : Hid (m + D.n0 + 4 * D.n1 + D.n2 + D.n3 + D.n4 + D.n5 = m + D.sum) := Lib.hid (by unfold Dat.sum; omega)
  clear ho hlt hge hhi hB
  go_enter Try.func10, Try.ntmps10
  go_wp2_with fail
  refine Calls.mono (markIntS_own B D.n0 h.c0 h.a0 _ (m) (by omega) b0 _ HO.out.gl) ?_
  rintro e w1 ⟨rfl, ho, hg⟩
  have G := Mid.of_grown (lo := B) (hi := hi) hg (blk_in HG.out.k0 HQ.out.k0)
  have R0_0 := Lib.hid ho
  have R0_1 := Lib.hid (HO.out.bl.kept hg (HO.out.d01.symm.own _ _ _ _))
  have R0_2 := Lib.hid (HO.out.la.kept hg (HO.out.d02.symm.own _ _ _ _))
  have R0_3 := Lib.hid (HO.out.pi.kept hg (HO.out.d03.symm.own _ _ _ _))
  have R0_4 := Lib.hid (HO.out.ou.kept hg (HO.out.d04.symm.own _ _ _ _))
  have R0_5 := Lib.hid (HO.out.wi.kept hg (HO.out.d05.symm.own _ _ _ _))
  have M0 := Lib.hid ((Mid.of_bel (lo := B) (hi := hi) HA.out).trans G)
  have K0 := Lib.hid (G.at HK.out (.inr HLo.out))
  clear ho hg G
  have q0 := cell_of_row w1 w.heap.size 1 _ _ _ K0.out
  go_wp2_with fail
  refine Calls.mono (markFbS_own B D.n1 h.c1 h.a1 _ (m + D.n0) (by omega) b1 _ R0_1.out) ?_
  rintro e w2 ⟨rfl, ho, hg⟩
  have G := Mid.of_grown (lo := B) (hi := hi) hg (blk_in HG.out.k1 HQ.out.k1)
  have R1_0 := Lib.hid (R0_0.out.kept hg (HO.out.d01.own _ _ _ _))
  have R1_1 := Lib.hid ho
  have R1_2 := Lib.hid (R0_2.out.kept hg (HO.out.d12.symm.own _ _ _ _))
  have R1_3 := Lib.hid (R0_3.out.kept hg (HO.out.d13.symm.own _ _ _ _))
  have R1_4 := Lib.hid (R0_4.out.kept hg (HO.out.d14.symm.own _ _ _ _))
  have R1_5 := Lib.hid (R0_5.out.kept hg (HO.out.d15.symm.own _ _ _ _))
  have M1 := Lib.hid (M0.out.trans G)
  have K1 := Lib.hid (G.at K0.out (.inr HLo.out))
  clear ho hg G
  have q0 := cell_of_row w2 w.heap.size 2 _ _ _ K1.out
  go_wp2_with fail
  refine Calls.mono (markBoolS_own B D.n2 h.c2 h.a2 _ (m + D.n0 + 4 * D.n1) (by omega) b2 _ R1_2.out) ?_
  rintro e w3 ⟨rfl, ho, hg⟩
  have G := Mid.of_grown (lo := B) (hi := hi) hg (blk_in HG.out.k2 HQ.out.k2)
  have R2_0 := Lib.hid (R1_0.out.kept hg (HO.out.d02.own _ _ _ _))
  have R2_1 := Lib.hid (R1_1.out.kept hg (HO.out.d12.own _ _ _ _))
  have R2_2 := Lib.hid ho
  have R2_3 := Lib.hid (R1_3.out.kept hg (HO.out.d23.symm.own _ _ _ _))
  have R2_4 := Lib.hid (R1_4.out.kept hg (HO.out.d24.symm.own _ _ _ _))
  have R2_5 := Lib.hid (R1_5.out.kept hg (HO.out.d25.symm.own _ _ _ _))
  have M2 := Lib.hid (M1.out.trans G)
  have K2 := Lib.hid (G.at K1.out (.inr HLo.out))
  clear ho hg G
  have q0 := cell_of_row w3 w.heap.size 3 _ _ _ K2.out
  go_wp2_with fail
  refine Calls.mono (markBoolS_own B D.n3 h.c3 h.a3 _ (m + D.n0 + 4 * D.n1 + D.n2) (by omega) b3 _ R2_3.out) ?_
  rintro e w4 ⟨rfl, ho, hg⟩
  have G := Mid.of_grown (lo := B) (hi := hi) hg (blk_in HG.out.k3 HQ.out.k3)
  have R3_0 := Lib.hid (R2_0.out.kept hg (HO.out.d03.own _ _ _ _))
  have R3_1 := Lib.hid (R2_1.out.kept hg (HO.out.d13.own _ _ _ _))
  have R3_2 := Lib.hid (R2_2.out.kept hg (HO.out.d23.own _ _ _ _))
  have R3_3 := Lib.hid ho
  have R3_4 := Lib.hid (R2_4.out.kept hg (HO.out.d34.symm.own _ _ _ _))
  have R3_5 := Lib.hid (R2_5.out.kept hg (HO.out.d35.symm.own _ _ _ _))
  have M3 := Lib.hid (M2.out.trans G)
  have K3 := Lib.hid (G.at K2.out (.inr HLo.out))
  clear ho hg G
  have q0 := cell_of_row w4 w.heap.size 4 _ _ _ K3.out
  go_wp2_with fail
  refine Calls.mono (markBoolS_own B D.n4 h.c4 h.a4 _ (m + D.n0 + 4 * D.n1 + D.n2 + D.n3) (by omega) b4 _ R3_4.out) ?_
  rintro e w5 ⟨rfl, ho, hg⟩
  have G := Mid.of_grown (lo := B) (hi := hi) hg (blk_in HG.out.k4 HQ.out.k4)
  have R4_0 := Lib.hid (R3_0.out.kept hg (HO.out.d04.own _ _ _ _))
  have R4_1 := Lib.hid (R3_1.out.kept hg (HO.out.d14.own _ _ _ _))
  have R4_2 := Lib.hid (R3_2.out.kept hg (HO.out.d24.own _ _ _ _))
  have R4_3 := Lib.hid (R3_3.out.kept hg (HO.out.d34.own _ _ _ _))
  have R4_4 := Lib.hid ho
  have R4_5 := Lib.hid (R3_5.out.kept hg (HO.out.d45.symm.own _ _ _ _))
  have M4 := Lib.hid (M3.out.trans G)
  have K4 := Lib.hid (G.at K3.out (.inr HLo.out))
  clear ho hg G
  have q0 := cell_of_row w5 w.heap.size 5 _ _ _ K4.out
  go_wp2_with fail
  refine Calls.mono (markBoolS_own B D.n5 h.c5 h.a5 _ (m + D.n0 + 4 * D.n1 + D.n2 + D.n3 + D.n4) (by omega) b5 _ R4_5.out) ?_
  rintro e w6 ⟨rfl, ho, hg⟩
  have G := Mid.of_grown (lo := B) (hi := hi) hg (blk_in HG.out.k5 HQ.out.k5)
  have R5_0 := Lib.hid (R4_0.out.kept hg (HO.out.d05.own _ _ _ _))
  have R5_1 := Lib.hid (R4_1.out.kept hg (HO.out.d15.own _ _ _ _))
  have R5_2 := Lib.hid (R4_2.out.kept hg (HO.out.d25.own _ _ _ _))
  have R5_3 := Lib.hid (R4_3.out.kept hg (HO.out.d35.own _ _ _ _))
  have R5_4 := Lib.hid (R4_4.out.kept hg (HO.out.d45.own _ _ _ _))
  have R5_5 := Lib.hid ho
  have M5 := Lib.hid (M4.out.trans G)
  have K5 := Lib.hid (G.at K4.out (.inr HLo.out))
  clear ho hg G
  go_wp2
  go_ret
  exact ⟨dt_ri HS.out, ⟨by have e := (markD_n m D).1; rw [e]; exact R5_0.out, by have e := (markD_n m D).2.1; rw [e]; exact R5_1.out, by have e := (markD_n m D).2.2.1; rw [e]; exact R5_2.out, by have e := (markD_n m D).2.2.2.1; rw [e]; exact R5_3.out, by have e := (markD_n m D).2.2.2.2.1; rw [e]; exact R5_4.out, by have e := (markD_n m D).2.2.2.2.2; rw [e]; exact R5_5.out, HO.out.d01, HO.out.d02, HO.out.d03, HO.out.d04, HO.out.d05, HO.out.d12, HO.out.d13, HO.out.d14, HO.out.d15, HO.out.d23, HO.out.d24, HO.out.d25, HO.out.d34, HO.out.d35, HO.out.d45⟩, M5.out, M5.out.below HBw.out⟩
set_option maxHeartbeats 1000000 in
theorem heldData_any (h : DH) (D : Dat) (m : Int) (hm : 0 ≤ m ∧ m ≤ 900000000) (hn : D.le 1048576) (w : World) (hz : DLies w h (markD m D)) :
    Calls Try.prog 11 #[dV h D, .int .i64 m] w fun e w' => e = .returned (.int .i64 (m + D.sum)) ∧ Below w.heap.size w w' := by
  obtain ⟨b0, b1, b2, b3, b4, b5⟩ := hn
  have HA := Lib.hid ((Below.refl w.heap.size w).alloc (Nat.le_refl _) (dO h D 26))
  have HZ := Lib.hid (hz.below HA.out (Nat.le_refl _))
  have HS : Hid (m + D.n0 + 4 * D.n1 + D.n2 + D.n3 + D.n4 + D.n5 = m + D.sum) := Lib.hid (by unfold Dat.sum; omega)
  clear hz
  go_enter Try.func11, Try.ntmps11
  go_wp2_with fail
  refine Calls.mono (heldIntS_any D.n0 h.c0 h.a0 (m) (by omega) b0 _ HZ.out.gl) ?_
  rintro e w' ⟨rfl, rfl⟩
  go_wp2_with fail
  refine Calls.mono (heldFbS_any D.n1 h.c1 h.a1 (m + D.n0) (by omega) b1 _ HZ.out.bl) ?_
  rintro e w' ⟨rfl, rfl⟩
  go_wp2_with fail
  refine Calls.mono (heldBoolS_any D.n2 h.c2 h.a2 (m + D.n0 + 4 * D.n1) (by omega) b2 _ HZ.out.la) ?_
  rintro e w' ⟨rfl, rfl⟩
  go_wp2_with fail
  refine Calls.mono (heldBoolS_any D.n3 h.c3 h.a3 (m + D.n0 + 4 * D.n1 + D.n2) (by omega) b3 _ HZ.out.pi) ?_
  rintro e w' ⟨rfl, rfl⟩
  go_wp2_with fail
  refine Calls.mono (heldBoolS_any D.n4 h.c4 h.a4 (m + D.n0 + 4 * D.n1 + D.n2 + D.n3) (by omega) b4 _ HZ.out.ou) ?_
  rintro e w' ⟨rfl, rfl⟩
  go_wp2_with fail
  refine Calls.mono (heldBoolS_any D.n5 h.c5 h.a5 (m + D.n0 + 4 * D.n1 + D.n2 + D.n3 + D.n4) (by omega) b5 _ HZ.out.wi) ?_
  rintro e w' ⟨rfl, rfl⟩
  go_wp2
  go_ret
  exact ⟨dt_ri HS.out, HA.out⟩
def SzPost (D : Dat) (w : World) (e : Ending) (w' : World) : Prop := Below w.heap.size w w' ∧ ∃ r : Int, e = .returned (.int .i64 r) ∧ (r = -1 ∨ (0 ≤ r ∧ r ≤ 1048576 ∧ D.le 1048576))
end Go.Proofs.Ytgiegppakoiaiaa
