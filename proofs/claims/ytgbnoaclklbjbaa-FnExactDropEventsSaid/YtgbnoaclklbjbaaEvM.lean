/- Laws over sources: OfferEvent, TakeEvent, DropEvents. (Written by tools/gen_evl.py.) -/
import Derived.Test.YtgbnoaclklbjbaaEvL
import Derived.Test.YtgbnoaclklbjbaaPhj
namespace Go.Proofs.Ytgbnoaclklbjbaa
open Go.ChangeShapes Go.WideShapes Go.ChangeAt Go.RowKit
set_option linter.unusedVariables false
/-- A result: a source whose queue is the call's own, and numbers. -/
def isRes (B : Nat) (l a d t s p : Int) (q : List Int) (r : List Value) : HerP := ⟨fun v X => ∃ b c, v = .tuple (.agg #[.int .i64 l, .int .i64 a, .int .i64 d, .int .i64 t, .int .i64 s, .int .i64 p, .slice b q.length c] :: r).toArray ∧ X.ownsRow B 3 1 (.slice b q.length c) q.length (kC q), fun _ _ _ ⟨b, c, h1, h2⟩ hb => ⟨b, c, h1, own_bl h2 hb⟩⟩
def isOwn (B : Nat) (l a d t s p : Int) (q : List Int) : HerP := ⟨fun v X => ∃ b c, v = .agg #[.int .i64 l, .int .i64 a, .int .i64 d, .int .i64 t, .int .i64 s, .int .i64 p, .slice b q.length c] ∧ X.ownsRow B 3 1 (.slice b q.length c) q.length (kC q), fun _ _ _ ⟨b, c, h1, h2⟩ hb => ⟨b, c, h1, own_bl h2 hb⟩⟩
/-- A new box of a source, whatever it holds. -/
def isNew (B : Nat) : HerP := ⟨fun v X => ∃ g, v = .pointer (some ⟨g, 0, none⟩) ∧ B ≤ g ∧ ∃ x0 x1 x2 x3 x4 x5 x6, X.heap[g]? = some (.cells #[x0, x1, x2, x3, x4, x5, x6] 24), fun _ _ _ ⟨g, h1, h2, x0, x1, x2, x3, x4, x5, x6, h3⟩ hb => ⟨g, h1, h2, x0, x1, x2, x3, x4, x5, x6, blk_bel h3 hb⟩⟩
/-- The store of a source into the box that operation ja made. -/
def storeQ (B js ja : Nat) (l a d t s p : Int) (q : List Int) : HerQ := ⟨[js, ja], fun v X => ∃ g b c, v ja = .pointer (some ⟨g, 0, none⟩) ∧ B ≤ g ∧ X.heap[g]? = some (.cells #[.int .i64 l, .int .i64 a, .int .i64 d, .int .i64 t, .int .i64 s, .int .i64 p, .slice b q.length c] 24) ∧ X.ownsRow B 3 1 (.slice b q.length c) q.length (kC q),
  fun _ _ _ h ⟨g, b, c, h1, h2⟩ => ⟨g, b, c, (h ja (by simp)).symm.trans h1, h2⟩, fun _ _ _ ⟨g, b, c, h1, h2, h3, h4⟩ hb => ⟨g, b, c, h1, h2, blk_bel h3 hb, own_bl h4 hb⟩⟩
/-- The boxes and rows of such a law: the arguments; the model's result, the copy that is handed in, the result. -/
structure EvW (w : World) (O O' : Obj) (g8 g1 g11 : Nat) (c8 c1 c11 : Array Value) (v8 v1 v11 : Value) (n8 n1 n11 : Nat) (x8 x1 x11 : List Value) (X : World) : Prop where
  hx : Bx2 w O O' X
  b8 : X.heap[g8]? = some (.cells c8 24)
  b1 : X.heap[g1]? = some (.cells c1 24)
  b11 : X.heap[g11]? = some (.cells c11 24)
  o8 : X.ownsRow w.heap.size 3 1 v8 n8 x8
  o1 : X.ownsRow w.heap.size 3 1 v1 n1 x1
  o11 : X.ownsRow w.heap.size 3 1 v11 n11 x11
theorem EvW.to {w : World} {O O' : Obj} {g8 g1 g11 : Nat} {c8 c1 c11 : Array Value} {v8 v1 v11 : Value} {n8 n1 n11 : Nat} {x8 x1 x11 : List Value} {X Y : World} (h : EvW w O O' g8 g1 g11 c8 c1 c11 v8 v1 v11 n8 n1 n11 x8 x1 x11 X) (hb : Below X.heap.size X Y) : EvW w O O' g8 g1 g11 c8 c1 c11 v8 v1 v11 n8 n1 n11 x8 x1 x11 Y :=
  ⟨h.hx.to hb, blk_bel h.b8 hb, blk_bel h.b1 hb, blk_bel h.b11 hb, own_bl h.o8 hb, own_bl h.o1 hb, own_bl h.o11 hb⟩
theorem blk_gr {w w' : World} {row : Option Nat} {k : Nat} {O : Obj} (h : w.heap[k]? = some O) (hg : w.grownBy w' row) (hn : row ≠ some k) : w'.heap[k]? = some O := (hg.block k (Array.getElem?_eq_some_iff.1 h).1 (fun e => hn e.symm)).trans h
theorem Bx2.grn {w X Y : World} {cs cs' : Array Value} {size n : Nat} {v : Value} {xs : List Value} (h : Bx2 w (.cells cs 29) (.cells cs' 31) X) (o : X.ownsRow w.heap.size 3 size v n xs) (hg : X.grownBy Y v.ownBlock) : Bx2 w (.cells cs 29) (.cells cs' 31) Y :=
  ⟨h.bel.grown hg h.bel.size (fun k hk => (o.lt k hk).1), blk_gr h.box hg (own_ne o h.box (by decide)), blk_gr h.box2 hg (own_ne o h.box2 (by decide))⟩
theorem EvW.m1 {w : World} {cs cs' : Array Value} {g8 g1 g11 : Nat} {c8 c1 c11 : Array Value} {v8 v1 v11 : Value} {n8 n1 n11 : Nat} {x8 x1 x11 y : List Value} {X Y : World} (h : EvW w (.cells cs 29) (.cells cs' 31) g8 g1 g11 c8 c1 c11 v8 v1 v11 n8 n1 n11 x8 x1 x11 X)
    (ho : Y.ownsRow w.heap.size 3 1 v1 n1 y) (hg : X.grownBy Y v1.ownBlock) (d8 : v8.ownBlock = none ∨ v8.ownBlock ≠ v1.ownBlock) (d11 : v11.ownBlock = none ∨ v11.ownBlock ≠ v1.ownBlock) : EvW w (.cells cs 29) (.cells cs' 31) g8 g1 g11 c8 c1 c11 v8 v1 v11 n8 n1 n11 x8 y x11 Y :=
  ⟨h.hx.grn h.o1 hg, blk_gr h.b8 hg (own_ne h.o1 h.b8 (by decide)), blk_gr h.b1 hg (own_ne h.o1 h.b1 (by decide)), blk_gr h.b11 hg (own_ne h.o1 h.b11 (by decide)), h.o8.kept hg d8, ho, h.o11.kept hg d11⟩
theorem EvW.m11 {w : World} {cs cs' : Array Value} {g8 g1 g11 : Nat} {c8 c1 c11 : Array Value} {v8 v1 v11 : Value} {n8 n1 n11 : Nat} {x8 x1 x11 y : List Value} {X Y : World} (h : EvW w (.cells cs 29) (.cells cs' 31) g8 g1 g11 c8 c1 c11 v8 v1 v11 n8 n1 n11 x8 x1 x11 X)
    (ho : Y.ownsRow w.heap.size 3 1 v11 n11 y) (hg : X.grownBy Y v11.ownBlock) (d8 : v8.ownBlock = none ∨ v8.ownBlock ≠ v11.ownBlock) (d1 : v1.ownBlock = none ∨ v1.ownBlock ≠ v11.ownBlock) : EvW w (.cells cs 29) (.cells cs' 31) g8 g1 g11 c8 c1 c11 v8 v1 v11 n8 n1 n11 x8 x1 y Y :=
  ⟨h.hx.grn h.o11 hg, blk_gr h.b8 hg (own_ne h.o11 h.b8 (by decide)), blk_gr h.b1 hg (own_ne h.o11 h.b1 (by decide)), blk_gr h.b11 hg (own_ne h.o11 h.b11 (by decide)), h.o8.kept hg d8, h.o1.kept hg d1, ho⟩
abbrev st7 (w : World) (g : Nat) (u0 u1 u2 u3 u4 u5 u6 : Value) : World := ((((((w.setCell ⟨g, 0, none⟩ u0).setCell ⟨g, 1, none⟩ u1).setCell ⟨g, 2, none⟩ u2).setCell ⟨g, 3, none⟩ u3).setCell ⟨g, 4, none⟩ u4).setCell ⟨g, 5, none⟩ u5).setCell ⟨g, 6, none⟩ u6
theorem st7_box {w : World} {g : Nat} {x0 x1 x2 x3 x4 x5 x6 : Value} {T : TypeId} (h : w.heap[g]? = some (.cells #[x0, x1, x2, x3, x4, x5, x6] T)) (u0 u1 u2 u3 u4 u5 u6 : Value) : (st7 w g u0 u1 u2 u3 u4 u5 u6).heap[g]? = some (.cells #[u0, u1, u2, u3, u4, u5, u6] T) := by
  have h0 : (w.setCell ⟨g, 0, none⟩ u0).heap[g]? = some (.cells #[u0, x1, x2, x3, x4, x5, x6] T) := wk_set h 0 u0
  have h1 : ((w.setCell ⟨g, 0, none⟩ u0).setCell ⟨g, 1, none⟩ u1).heap[g]? = some (.cells #[u0, u1, x2, x3, x4, x5, x6] T) := wk_set h0 1 u1
  have h2 : (((w.setCell ⟨g, 0, none⟩ u0).setCell ⟨g, 1, none⟩ u1).setCell ⟨g, 2, none⟩ u2).heap[g]? = some (.cells #[u0, u1, u2, x3, x4, x5, x6] T) := wk_set h1 2 u2
  have h3 : ((((w.setCell ⟨g, 0, none⟩ u0).setCell ⟨g, 1, none⟩ u1).setCell ⟨g, 2, none⟩ u2).setCell ⟨g, 3, none⟩ u3).heap[g]? = some (.cells #[u0, u1, u2, u3, x4, x5, x6] T) := wk_set h2 3 u3
  have h4 : (((((w.setCell ⟨g, 0, none⟩ u0).setCell ⟨g, 1, none⟩ u1).setCell ⟨g, 2, none⟩ u2).setCell ⟨g, 3, none⟩ u3).setCell ⟨g, 4, none⟩ u4).heap[g]? = some (.cells #[u0, u1, u2, u3, u4, x5, x6] T) := wk_set h3 4 u4
  have h5 : ((((((w.setCell ⟨g, 0, none⟩ u0).setCell ⟨g, 1, none⟩ u1).setCell ⟨g, 2, none⟩ u2).setCell ⟨g, 3, none⟩ u3).setCell ⟨g, 4, none⟩ u4).setCell ⟨g, 5, none⟩ u5).heap[g]? = some (.cells #[u0, u1, u2, u3, u4, u5, x6] T) := wk_set h4 5 u5
  have h6 : (((((((w.setCell ⟨g, 0, none⟩ u0).setCell ⟨g, 1, none⟩ u1).setCell ⟨g, 2, none⟩ u2).setCell ⟨g, 3, none⟩ u3).setCell ⟨g, 4, none⟩ u4).setCell ⟨g, 5, none⟩ u5).setCell ⟨g, 6, none⟩ u6).heap[g]? = some (.cells #[u0, u1, u2, u3, u4, u5, u6] T) := wk_set h5 6 u6
  exact h6
theorem st7_blk {w : World} {g k : Nat} {O : Obj} (h : w.heap[k]? = some O) (hk : k ≠ g) (u0 u1 u2 u3 u4 u5 u6 : Value) : (st7 w g u0 u1 u2 u3 u4 u5 u6).heap[k]? = some O :=
  blk_far (blk_far (blk_far (blk_far (blk_far (blk_far (blk_far h hk u0) hk u1) hk u2) hk u3) hk u4) hk u5) hk u6
theorem st7_own {w : World} {g B size n : Nat} {e : TypeId} {v : Value} {xs : List Value} (h : w.ownsRow B e size v n xs) (hk : v.ownBlock ≠ some g) (u0 u1 u2 u3 u4 u5 u6 : Value) : (st7 w g u0 u1 u2 u3 u4 u5 u6).ownsRow B e size v n xs :=
  ownsRow_setCell_other (ownsRow_setCell_other (ownsRow_setCell_other (ownsRow_setCell_other (ownsRow_setCell_other (ownsRow_setCell_other (ownsRow_setCell_other h hk u0) hk u1) hk u2) hk u3) hk u4) hk u5) hk u6
theorem Bx2.st7 {w X : World} {O O' : Obj} (h : Bx2 w O O' X) {g : Nat} (hg : w.heap.size + 2 ≤ g) (u0 u1 u2 u3 u4 u5 u6 : Value) : Bx2 w O O' (st7 X g u0 u1 u2 u3 u4 u5 u6) :=
  ⟨ev_bel7 h.bel (by omega) _ _ _ _ _ _ _, st7_blk h.box (by omega) _ _ _ _ _ _ _, st7_blk h.box2 (by omega) _ _ _ _ _ _ _⟩
theorem EvW.st7 {w : World} {O O' : Obj} {g8 g1 g11 : Nat} {c8 c1 c11 : Array Value} {v8 v1 v11 : Value} {n8 n1 n11 : Nat} {x8 x1 x11 : List Value} {X : World} (h : EvW w O O' g8 g1 g11 c8 c1 c11 v8 v1 v11 n8 n1 n11 x8 x1 x11 X) {g : Nat} {cs : Array Value} (hb : X.heap[g]? = some (.cells cs 24)) (hg : w.heap.size + 2 ≤ g) (h8 : g8 < g) (h1 : g1 < g) (h11 : g11 < g) (u0 u1 u2 u3 u4 u5 u6 : Value) : EvW w O O' g8 g1 g11 c8 c1 c11 v8 v1 v11 n8 n1 n11 x8 x1 x11 (st7 X g u0 u1 u2 u3 u4 u5 u6) :=
  ⟨h.hx.st7 hg _ _ _ _ _ _ _, st7_blk h.b8 (by omega) _ _ _ _ _ _ _, st7_blk h.b1 (by omega) _ _ _ _ _ _ _, st7_blk h.b11 (by omega) _ _ _ _ _ _ _, st7_own h.o8 (own_ne h.o8 hb (by decide)) _ _ _ _ _ _ _, st7_own h.o1 (own_ne h.o1 hb (by decide)) _ _ _ _ _ _ _, st7_own h.o11 (own_ne h.o11 hb (by decide)) _ _ _ _ _ _ _⟩
theorem ob_ne {w w' : World} {B B' n n' : Nat} {v v' : Value} {e : TypeId} {xs xs' : List Value} (h : w.ownsRow B e 1 v n xs) (h' : w'.ownsRow B' e 1 v' n' xs') (hb : w.heap.size ≤ B') : v.ownBlock = none ∨ v.ownBlock ≠ v'.ownBlock := by
  cases e1 : v.ownBlock with
  | none => exact .inl rfl
  | some k => exact .inr (fun e2 => by have h1 := (h.lt k e1).2; have h2 := (h'.lt k e2.symm).1; omega)
theorem ob_ne' {w w' : World} {B B' n n' : Nat} {v v' : Value} {e : TypeId} {xs xs' : List Value} (h : w.ownsRow B e 1 v n xs) (h' : w'.ownsRow B' e 1 v' n' xs') (hb : w.heap.size ≤ B') : v'.ownBlock = none ∨ v'.ownBlock ≠ v.ownBlock := by
  cases e1 : v'.ownBlock with
  | none => exact .inl rfl
  | some k => exact .inr (fun e2 => by have h1 := (h.lt k e2.symm).2; have h2 := (h'.lt k e1).1; omega)
theorem mkS_ph (l a d t s p : Int) (q : List Int) (B c : Nat) (b : Option Addr) (xs : List Value) (hn : q.length ≤ 1048576) (w : World) (ho : w.ownsRow B 3 1 (.slice b q.length c) q.length xs) :
    Calls Try.prog 15 #[.agg #[.int .i64 l, .int .i64 a, .int .i64 d, .int .i64 t, .int .i64 s, .int .i64 p, .slice b q.length c], .int .i64 1] w fun e w' => e = .returned (.int .i64 (1 + q.length)) ∧ w'.ownsRow B 3 1 (.slice b q.length c) q.length (kC (marksI 1 q.length)) ∧ w.grownBy w' (Value.ownBlock (.slice b q.length c)) := markSource_own ⟨l, a, d, t, s, p, q⟩ B c b xs 1 (by omega) hn w ho
theorem hdS_ph (l a d t s p : Int) (q : List Int) (c : Nat) (b : Option Addr) (hn : q.length ≤ 1048576) (w : World) (hz : Lies w b (kC (marksI 1 q.length))) :
    Calls Try.prog 16 #[.agg #[.int .i64 l, .int .i64 a, .int .i64 d, .int .i64 t, .int .i64 s, .int .i64 p, .slice b q.length c], .int .i64 1] w fun e w' => e = .returned (.int .i64 (1 + q.length)) ∧ Below w.heap.size w w' := heldSource_any ⟨l, a, d, t, s, p, q⟩ c b 1 (by omega) hn w hz
theorem sOK_len {x : ST} {z : TT} (h : sOK x z = true) : x.q.length ≤ 4 := by
  have h1 := sOK_in h
  have h2 := tkB_q h1.tk
  have h3 := h1.n
  omega
theorem OfferEvent_len (x : ST) (z : TT) (now : Int) : (offF x z now).1.q.length ≤ 5 := by
  unfold offF
  split
  · exact Nat.zero_le _
  · rename_i h
    split
    · exact Nat.zero_le _
    · have h1 := offG_len x z now
      have h2 := sOK_len (show sOK x z = true by simpa using h)
      omega
theorem TakeEvent_len (x : ST) (z : TT) : (takF x z).1.q.length ≤ 5 := by
  unfold takF
  split
  · exact Nat.zero_le _
  · rename_i h
    have h2 := sOK_len (show sOK x z = true by simpa using h)
    split
    · show x.q.length ≤ 5
      omega
    · rename_i e
      rw [e] at h2
      simp only [List.length_cons] at h2
      exact Nat.le_trans (Nat.le_of_succ_le h2) (by decide)
theorem DropEvents_len (x : ST) (z : TT) (rn : Bool) : (drpF x z rn).1.q.length ≤ 5 := by
  unfold drpF
  split <;> exact Nat.zero_le _
set_option maxRecDepth 100000 in
set_option maxHeartbeats 1000000 in
theorem FnExactOfferEvent_walk (l a d t s p : Int) (q : List Int) (zk zp zd zi zq zr : Int) (now : Int) (b : Option Addr) (c : Nat) (hm : q.length ≤ maxLen) (w : World) (hz : Lies w b (kC q)) :
    Calls Try.prog 5 #[.agg #[.int .i64 l, .int .i64 a, .int .i64 d, .int .i64 t, .int .i64 s, .int .i64 p, .slice b q.length c], .agg #[.int .i64 zk, .int .i64 zp, .int .i64 zd, .int .i64 zi, .int .i64 zq, .int .i64 zr], .int .i64 now] w fun e w' => e = .returned (.bool true) ∧ Below w.heap.size w w' := by
  have HX := Lib.hid (Bx2.start w (.cells #[.int .i64 l, .int .i64 a, .int .i64 d, .int .i64 t, .int .i64 s, .int .i64 p, .slice b q.length c] 29) (.cells #[.int .i64 zk, .int .i64 zp, .int .i64 zd, .int .i64 zi, .int .i64 zq, .int .i64 zr] 31))
  have HZ := Lib.hid hz
  have HSZ := Lib.hid (fun X => szSource_any ⟨l, a, d, t, s, p, q⟩ b c hm X)
  have HSZ : Hid (∀ X, Calls Try.prog 17 #[.agg #[.int .i64 l, .int .i64 a, .int .i64 d, .int .i64 t, .int .i64 s, .int .i64 p, .slice b q.length c], .int .i64 1048576] X fun e w' => Below X.heap.size X w' ∧ ∃ r : Int, e = .returned (.int .i64 r) ∧ (r = -1 ∨ (0 ≤ r ∧ q.length ≤ 1048576))) := HSZ
  have HS := Lib.hid (fun b c (hf : Fits b q.length c) w hz => specOfferEvent_any ⟨l, a, d, t, s, p, q⟩ ⟨zk, zp, zd, zi, zq, zr⟩ now b c hm hf w hz)
  have HI := Lib.hid (fun b c w hz => implOfferEvent_any ⟨l, a, d, t, s, p, q⟩ ⟨zk, zp, zd, zi, zq, zr⟩ now b c hm w hz)
  have HQN := Lib.hid (OfferEvent_len ⟨l, a, d, t, s, p, q⟩ ⟨zk, zp, zd, zi, zq, zr⟩ now)
  generalize offF ⟨l, a, d, t, s, p, q⟩ ⟨zk, zp, zd, zi, zq, zr⟩ now = R at *
  obtain ⟨⟨l', a', d', t', s', p', q'⟩, k1⟩ := R
  have hn' : q'.length ≤ 5 := HQN.out
  have HS : Hid (∀ b c, Fits b q.length c → ∀ w, Lies w b (kC q) → Calls Try.prog 22 #[.agg #[.int .i64 l, .int .i64 a, .int .i64 d, .int .i64 t, .int .i64 s, .int .i64 p, .slice b q.length c], .agg #[.int .i64 zk, .int .i64 zp, .int .i64 zd, .int .i64 zi, .int .i64 zq, .int .i64 zr], .int .i64 now] w fun e w' => ∃ b c, e = .returned (.tuple (.agg #[.int .i64 l', .int .i64 a', .int .i64 d', .int .i64 t', .int .i64 s', .int .i64 p', .slice b q'.length c] :: [.int .i64 k1]).toArray) ∧ w'.ownsRow w.heap.size 3 1 (.slice b q'.length c) q'.length (kC q') ∧ Below w.heap.size w w') := HS
  have HI : Hid (∀ b c w, Lies w b (kC q) → Calls Try.prog 23 #[.agg #[.int .i64 l, .int .i64 a, .int .i64 d, .int .i64 t, .int .i64 s, .int .i64 p, .slice b q.length c], .agg #[.int .i64 zk, .int .i64 zp, .int .i64 zd, .int .i64 zi, .int .i64 zq, .int .i64 zr], .int .i64 now] w fun e w' => ∃ b c, e = .returned (.tuple (.agg #[.int .i64 l', .int .i64 a', .int .i64 d', .int .i64 t', .int .i64 s', .int .i64 p', .slice b q'.length c] :: [.int .i64 k1]).toArray) ∧ w'.ownsRow w.heap.size 3 1 (.slice b q'.length c) q'.length (kC q') ∧ Below w.heap.size w w') := HI
  clear HQN
  clear hz
  go_enter Try.func5, Try.ntmps5
  go_upto_region 2 with (fail)
  generalize (w.alloc (.cells #[.int .i64 l, .int .i64 a, .int .i64 d, .int .i64 t, .int .i64 s, .int .i64 p, .slice b q.length c] 29)).alloc (.cells #[.int .i64 zk, .int .i64 zp, .int .i64 zd, .int .i64 zi, .int .i64 zq, .int .i64 zr] 31) = W0 at *
  have c0 := cell_of_row W0 w.heap.size 0 _ _ _ HX.out.box
  have c1 := cell_of_row W0 w.heap.size 1 _ _ _ HX.out.box
  have c2 := cell_of_row W0 w.heap.size 2 _ _ _ HX.out.box
  have c3 := cell_of_row W0 w.heap.size 3 _ _ _ HX.out.box
  have c4 := cell_of_row W0 w.heap.size 4 _ _ _ HX.out.box
  have c5 := cell_of_row W0 w.heap.size 5 _ _ _ HX.out.box
  have c6 := cell_of_row W0 w.heap.size 6 _ _ _ HX.out.box
  go_wp2_with fail
  refine Calls.mono (HSZ.out _) ?_
  rintro e w1 ⟨hb, r, rfl, hr⟩
  have HX := Lib.hid (HX.out.to hb)
  clear hb HSZ c0 c1 c2 c3 c4 c5 c6
  by_cases hr0 : r < 0
  · clear hr
    go_wp2
    go_ret
    exact ⟨rfl, HX.out.bel⟩
  have hn : q.length ≤ 1048576 := by omega
  have HTS := Lib.hid (fun b c w hz => toS_ph l a d t s p q b c hn w hz)
  have HTT := Lib.hid (fun w => toT_ph zk zp zd zi zq zr w)
  have HEQ := Lib.hid (fun b b' c c' w hz hy => eqS_ph l a d t s p q b b' c c' hn w hz hy)
  clear hr
  have HEQ' := Lib.hid (fun b b' c c' w hz hy => eqS_ph l' a' d' t' s' p' q' b b' c c' (by omega) w hz hy)
  have HMK := Lib.hid (fun B c b xs w ho => mkS_ph l a d t s p q B c b xs hn w ho)
  have HMK' := Lib.hid (fun B c b xs w ho => mkS_ph l' a' d' t' s' p' q' B c b xs (by omega) w ho)
  have HHD' := Lib.hid (fun c b w hz => hdS_ph l' a' d' t' s' p' q' c b (by omega) w hz)
  go_upto_region 5 with (fail)
  have hw1 : w.heap.size + 2 ≤ w1.heap.size := (Array.getElem?_eq_some_iff.1 HX.out.box2).1
  go_cut [8, 9] (fun s8 s9 wx => ∃ g8 b8 c8, s8 = .pointer (some ⟨g8, 0, none⟩) ∧ s9 = .int .i64 k1 ∧ Hid (Bx2 w (.cells #[.int .i64 l, .int .i64 a, .int .i64 d, .int .i64 t, .int .i64 s, .int .i64 p, .slice b q.length c] 29) (.cells #[.int .i64 zk, .int .i64 zp, .int .i64 zd, .int .i64 zi, .int .i64 zq, .int .i64 zr] 31) wx ∧ wx.heap[g8]? = some (.cells #[.int .i64 l', .int .i64 a', .int .i64 d', .int .i64 t', .int .i64 s', .int .i64 p', .slice b8 q'.length c8] 24) ∧ wx.ownsRow w1.heap.size 3 1 (.slice b8 q'.length c8) q'.length (kC q') ∧ w1.heap.size ≤ g8))
  case first =>
    refine wp_region_phj 12 [some 24, some 25, some 26, some 27, some 28, some 29, some 23, some 30, some 31, some 8, none, some 9] (fun X => Below w1.heap.size w1 X) (herQ [atK 0 (isV (.agg #[.int .i64 l, .int .i64 a, .int .i64 d, .int .i64 t, .int .i64 s, .int .i64 p, .slice b q.length c])), atK 1 (isOwn w1.heap.size l a d t s p q), atK 2 (isV (.agg #[.int .i64 zk, .int .i64 zp, .int .i64 zd, .int .i64 zi, .int .i64 zq, .int .i64 zr])), atK 3 (isV (.agg #[.int .i64 zk, .int .i64 zp, .int .i64 zd, .int .i64 zi, .int .i64 zq, .int .i64 zr])), atK 4 (isV (.int .i64 now)), atK 5 (isRes w1.heap.size l' a' d' t' s' p' q' [.int .i64 k1]), atK 6 (isRes w1.heap.size l' a' d' t' s' p' q' [.int .i64 k1]), atK 7 (isOwn w1.heap.size l' a' d' t' s' p' q'), atK 8 (isV (.int .i64 k1)), atK 9 (isNew w1.heap.size), storeQ w1.heap.size 10 9 l' a' d' t' s' p' q', atK 11 (isV (.int .i64 k1))]) (herD [atK 0 (isV (.agg #[.int .i64 l, .int .i64 a, .int .i64 d, .int .i64 t, .int .i64 s, .int .i64 p, .slice b q.length c])), atK 1 (isOwn w1.heap.size l a d t s p q), atK 2 (isV (.agg #[.int .i64 zk, .int .i64 zp, .int .i64 zd, .int .i64 zi, .int .i64 zq, .int .i64 zr])), atK 3 (isV (.agg #[.int .i64 zk, .int .i64 zp, .int .i64 zd, .int .i64 zi, .int .i64 zq, .int .i64 zr])), atK 4 (isV (.int .i64 now)), atK 5 (isRes w1.heap.size l' a' d' t' s' p' q' [.int .i64 k1]), atK 6 (isRes w1.heap.size l' a' d' t' s' p' q' [.int .i64 k1]), atK 7 (isOwn w1.heap.size l' a' d' t' s' p' q'), atK 8 (isV (.int .i64 k1)), atK 9 (isNew w1.heap.size), storeQ w1.heap.size 10 9 l' a' d' t' s' p' q', atK 11 (isV (.int .i64 k1))]) (by kernel_rfl) (by kernel_rfl) (by kernel_rfl) (Below.refl _ _).drew ?steps ?fin
    case steps =>
      refine PjSteps.cons ?s0 (PjSteps.cons ?s1 (PjSteps.cons ?s2 (PjSteps.cons ?s3 (PjSteps.cons ?s4 (PjSteps.cons ?s5 (PjSteps.cons ?s6 (PjSteps.cons ?s7 (PjSteps.cons ?s8 (PjSteps.cons ?s9 (PjSteps.cons ?s10 (PjSteps.cons ?s11 (PjSteps.nil))))))))))))
      case s0 =>
        intro v f a X hat hS hv hnk hcl haf K hK
        have ev := hat.old 3 (fun k hk => absurd (List.mem_of_getElem? hk) (by decide))
        obtain ⟨tm, df⟩ := a
        have c0 := cell_of_row X w.heap.size 0 _ _ _ (blk_bel HX.out.box hS)
        have c1 := cell_of_row X w.heap.size 1 _ _ _ (blk_bel HX.out.box hS)
        have c2 := cell_of_row X w.heap.size 2 _ _ _ (blk_bel HX.out.box hS)
        have c3 := cell_of_row X w.heap.size 3 _ _ _ (blk_bel HX.out.box hS)
        have c4 := cell_of_row X w.heap.size 4 _ _ _ (blk_bel HX.out.box hS)
        have c5 := cell_of_row X w.heap.size 5 _ _ _ (blk_bel HX.out.box hS)
        have c6 := cell_of_row X w.heap.size 6 _ _ _ (blk_bel HX.out.box hS)
        go_simp
        exact hK.out _ _ (herQ_at rfl (show _ = _ from rfl)) (herQ_same hv hnk hcl _) hS
      case s1 =>
        intro v f a X hat hS hv hnk hcl haf K hK
        have f0 := ph_haf haf 0 (by kernel_rfl)
        have ev0 := hat.done 0 24 f0 rfl
        have h0 := hv 0 f0
        rw [show v 0 = _ from h0] at ev0
        obtain ⟨tm, df⟩ := a
        go_simp
        refine Calls.mono (HTS.out b c _ (HZ.out.below (HX.out.bel.trans (hS.mono HX.out.bel.size)) (Nat.le_refl _))) ?_
        rintro e Y ⟨g, rfl, ho, hb⟩
        exact hK.out _ _ (herQ_at rfl (⟨_, _, rfl, own_base ho hS.size⟩)) (herQ_keep hv hnk hcl hb _) (hS.trans (hb.mono hS.size))
      case s2 =>
        intro v f a X hat hS hv hnk hcl haf K hK
        have ev := hat.old 4 (fun k hk => absurd (List.mem_of_getElem? hk) (by decide))
        obtain ⟨tm, df⟩ := a
        have c0 := cell_of_row X (w.heap.size + 1) 0 _ _ _ (blk_bel HX.out.box2 hS)
        have c1 := cell_of_row X (w.heap.size + 1) 1 _ _ _ (blk_bel HX.out.box2 hS)
        have c2 := cell_of_row X (w.heap.size + 1) 2 _ _ _ (blk_bel HX.out.box2 hS)
        have c3 := cell_of_row X (w.heap.size + 1) 3 _ _ _ (blk_bel HX.out.box2 hS)
        have c4 := cell_of_row X (w.heap.size + 1) 4 _ _ _ (blk_bel HX.out.box2 hS)
        have c5 := cell_of_row X (w.heap.size + 1) 5 _ _ _ (blk_bel HX.out.box2 hS)
        go_simp
        exact hK.out _ _ (herQ_at rfl (show _ = _ from rfl)) (herQ_same hv hnk hcl _) hS
      case s3 =>
        intro v f a X hat hS hv hnk hcl haf K hK
        have f0 := ph_haf haf 2 (by kernel_rfl)
        have ev0 := hat.done 2 26 f0 rfl
        have h0 := hv 2 f0
        rw [show v 2 = _ from h0] at ev0
        obtain ⟨tm, df⟩ := a
        go_simp
        refine Calls.mono (HTT.out _) ?_
        rintro e Y ⟨rfl, hb⟩
        exact hK.out _ _ (herQ_at rfl (show _ = _ from rfl)) (herQ_keep hv hnk hcl hb _) (hS.trans (hb.mono hS.size))
      case s4 =>
        intro v f a X hat hS hv hnk hcl haf K hK
        have ev := hat.old 2 (fun k hk => absurd (List.mem_of_getElem? hk) (by decide))
        obtain ⟨tm, df⟩ := a
        go_simp
        exact hK.out _ _ (herQ_at rfl (show _ = _ from rfl)) (herQ_same hv hnk hcl _) hS
      case s5 =>
        intro v f a X hat hS hv hnk hcl haf K hK
        have f0 := ph_haf haf 1 (by kernel_rfl)
        have ev0 := hat.done 1 25 f0 rfl
        obtain ⟨b0, c0, h0, o0⟩ := hv 1 f0
        rw [h0] at ev0
        have f1 := ph_haf haf 3 (by kernel_rfl)
        have ev1 := hat.done 3 27 f1 rfl
        have h1 := hv 3 f1
        rw [show v 3 = _ from h1] at ev1
        have f2 := ph_haf haf 4 (by kernel_rfl)
        have ev2 := hat.done 4 28 f2 rfl
        have h2 := hv 4 f2
        rw [show v 4 = _ from h2] at ev2
        obtain ⟨tm, df⟩ := a
        go_simp
        refine Calls.mono (HS.out b0 c0 (fits_own o0) _ (lies_own o0)) ?_
        rintro e Y ⟨b9, c9, rfl, ho, hb⟩
        exact hK.out _ _ (herQ_at rfl (⟨b9, c9, rfl, own_base ho hS.size⟩)) (herQ_keep hv hnk hcl hb _) (hS.trans (hb.mono hS.size))
      case s6 =>
        intro v f a X hat hS hv hnk hcl haf K hK
        have f0 := ph_haf haf 5 (by kernel_rfl)
        have ev0 := hat.done 5 29 f0 rfl
        obtain ⟨b0, c0, h0, o0⟩ := hv 5 f0
        rw [h0] at ev0
        obtain ⟨tm, df⟩ := a
        go_simp
        exact hK.out _ _ (herQ_at rfl (⟨b0, c0, rfl, o0⟩)) (herQ_same hv hnk hcl _) hS
      case s7 =>
        intro v f a X hat hS hv hnk hcl haf K hK
        have f0 := ph_haf haf 6 (by kernel_rfl)
        have ev0 := hat.done 6 23 f0 rfl
        obtain ⟨b0, c0, h0, o0⟩ := hv 6 f0
        rw [h0] at ev0
        obtain ⟨tm, df⟩ := a
        go_simp
        exact hK.out _ _ (herQ_at rfl (⟨b0, c0, rfl, o0⟩)) (herQ_same hv hnk hcl _) hS
      case s8 =>
        intro v f a X hat hS hv hnk hcl haf K hK
        have f0 := ph_haf haf 6 (by kernel_rfl)
        have ev0 := hat.done 6 23 f0 rfl
        obtain ⟨b0, c0, h0, o0⟩ := hv 6 f0
        rw [h0] at ev0
        obtain ⟨tm, df⟩ := a
        go_simp
        exact hK.out _ _ (herQ_at rfl (show _ = _ from rfl)) (herQ_same hv hnk hcl _) hS
      case s9 =>
        intro v f a X hat hS hv hnk hcl haf K hK
        obtain ⟨tm, df⟩ := a
        go_simp
        exact hK.out _ _ (herQ_at rfl ⟨X.heap.size, rfl, hS.size, _, _, _, _, _, _, _, heap_alloc_new X _⟩) (herQ_keep hv hnk hcl (dbox X _) _) (hS.trans ((dbox X _).mono hS.size))
      case s10 =>
        intro v f a X hat hS hv hnk hcl haf K hK
        have f0 := ph_haf haf 9 (by kernel_rfl)
        have ev0 := hat.done 9 8 f0 rfl
        obtain ⟨gn0, h0, hB0, x0, x1, x2, x3, x4, x5, x6, hbx0⟩ := hv 9 f0
        rw [h0] at ev0
        have f1 := ph_haf haf 7 (by kernel_rfl)
        have ev1 := hat.done 7 30 f1 rfl
        obtain ⟨b1, c1, h1, o1⟩ := hv 7 f1
        rw [h1] at ev1
        obtain ⟨tm, df⟩ := a
        have e0 := cell_of_row X gn0 0 _ _ _ hbx0
        have z0 := frozen_of_row X gn0 0 _ _ hbx0
        have e1 := cell_of_row X gn0 1 _ _ _ hbx0
        have z1 := frozen_of_row X gn0 1 _ _ hbx0
        have e2 := cell_of_row X gn0 2 _ _ _ hbx0
        have z2 := frozen_of_row X gn0 2 _ _ hbx0
        have e3 := cell_of_row X gn0 3 _ _ _ hbx0
        have z3 := frozen_of_row X gn0 3 _ _ hbx0
        have e4 := cell_of_row X gn0 4 _ _ _ hbx0
        have z4 := frozen_of_row X gn0 4 _ _ hbx0
        have e5 := cell_of_row X gn0 5 _ _ _ hbx0
        have z5 := frozen_of_row X gn0 5 _ _ hbx0
        have e6 := cell_of_row X gn0 6 _ _ _ hbx0
        have z6 := frozen_of_row X gn0 6 _ _ hbx0
        go_simp
        refine hK.out undef _ ?h1 ?h2 (ev_bel7 hS (by omega) _ _ _ _ _ _ _)
        case h1 => exact ⟨gn0, b1, c1, (phU_ne (by decide)).trans h0, hB0, st7_box hbx0 _ _ _ _ _ _ _, st7_own o1 (own_ne o1 hbx0 (by decide)) _ _ _ _ _ _ _⟩
        case h2 =>
          intro j hj
          have hq := herQ_same hv hnk hcl undef j hj
          rcases j with _ | _ | _ | _ | _ | _ | _ | _ | _ | _ | _ | _ | _
          · show (_ : Value) = _
            exact hq
          · exact let ⟨b, c, h1, h2⟩ := hq; ⟨b, c, h1, st7_own h2 (own_ne h2 hbx0 (by decide)) _ _ _ _ _ _ _⟩
          · show (_ : Value) = _
            exact hq
          · show (_ : Value) = _
            exact hq
          · show (_ : Value) = _
            exact hq
          · exact let ⟨b, c, h1, h2⟩ := hq; ⟨b, c, h1, st7_own h2 (own_ne h2 hbx0 (by decide)) _ _ _ _ _ _ _⟩
          · exact let ⟨b, c, h1, h2⟩ := hq; ⟨b, c, h1, st7_own h2 (own_ne h2 hbx0 (by decide)) _ _ _ _ _ _ _⟩
          · exact let ⟨b, c, h1, h2⟩ := hq; ⟨b, c, h1, st7_own h2 (own_ne h2 hbx0 (by decide)) _ _ _ _ _ _ _⟩
          · show (_ : Value) = _
            exact hq
          · obtain ⟨g', h1, h2, y0, y1, y2, y3, y4, y5, y6, h3⟩ := hq
            obtain rfl : g' = gn0 := by
              have := h1.symm.trans ((phU_ne (by decide)).trans h0)
              simpa using this
            exact ⟨g', h1, h2, _, _, _, _, _, _, _, st7_box h3 _ _ _ _ _ _ _⟩
          · exact absurd hj (by rw [hnk]; decide)
          · show (_ : Value) = _
            exact hq
          · trivial
      case s11 =>
        intro v f a X hat hS hv hnk hcl haf K hK
        have f0 := ph_haf haf 8 (by kernel_rfl)
        have ev0 := hat.done 8 31 f0 rfl
        have h0 := hv 8 f0
        rw [show v 8 = _ from h0] at ev0
        obtain ⟨tm, df⟩ := a
        go_simp
        exact hK.out _ _ (herQ_at rfl (show _ = _ from rfl)) (herQ_same hv hnk hcl _) hS
    case fin =>
      intro v X hX hv
      obtain ⟨g, bR, cR, hg, hBg, hbx, ho⟩ := hv 10 (by decide)
      have r0 := hv 11 (by decide)
      simp only [pjAll, Act.put, List.setIfInBounds_toArray, List.set_cons_zero, List.set_cons_succ]
      rw [show v 9 = _ from hg, show v 11 = _ from r0]
      simp only [phTail, List.drop_succ_cons, List.drop_zero]
      go_wp2_with fail
      go_meet
      exact ⟨g, bR, cR, rfl, rfl, Lib.hid ⟨HX.out.to hX, hbx, ho, hBg⟩⟩
  case rest =>
  obtain ⟨g8, b8, c8, rfl, rfl, hc⟩ := hcut
  have HX := Lib.hid hc.out.1
  have HB8 := Lib.hid hc.out.2.1
  have HO8 := Lib.hid hc.out.2.2.1
  have hg8 := hc.out.2.2.2
  have hg8w : g8 < wc.heap.size := (Array.getElem?_eq_some_iff.1 HB8.out).1
  have HOC := HO8
  clear hc
  have c0 := cell_of_row wc w.heap.size 0 _ _ _ HX.out.box
  have c1 := cell_of_row wc w.heap.size 1 _ _ _ HX.out.box
  have c2 := cell_of_row wc w.heap.size 2 _ _ _ HX.out.box
  have c3 := cell_of_row wc w.heap.size 3 _ _ _ HX.out.box
  have c4 := cell_of_row wc w.heap.size 4 _ _ _ HX.out.box
  have c5 := cell_of_row wc w.heap.size 5 _ _ _ HX.out.box
  have c6 := cell_of_row wc w.heap.size 6 _ _ _ HX.out.box
  go_wp2_with fail
  refine Calls.mono (HTS.out b c _ (HZ.out.below HX.out.bel (Nat.le_refl _))) ?_
  rintro e w2 ⟨g1, rfl, ho, hb⟩
  have HX := Lib.hid (HX.out.to hb)
  have HO1 := Lib.hid ho
  have HB8 := Lib.hid (blk_bel HB8.out hb)
  have HO8 := Lib.hid (own_bl HO8.out hb)
  have D81 := Lib.hid (ob_ne HOC.out ho (Nat.le_refl _))
  have hwc := hb.size
  clear hb ho c0 c1 c2 c3 c4 c5 c6
  go_upto_region 7 with (fail)
  have HB1 := Lib.hid (heap_alloc_new w2 (.cells #[.int .i64 l, .int .i64 a, .int .i64 d, .int .i64 t, .int .i64 s, .int .i64 p, .slice (some ⟨g1, 0, none⟩) q.length q.length] 24))
  have HX := Lib.hid (HX.out.to (dbox w2 (.cells #[.int .i64 l, .int .i64 a, .int .i64 d, .int .i64 t, .int .i64 s, .int .i64 p, .slice (some ⟨g1, 0, none⟩) q.length q.length] 24)))
  have HB8 := Lib.hid (blk_bel HB8.out (dbox w2 (.cells #[.int .i64 l, .int .i64 a, .int .i64 d, .int .i64 t, .int .i64 s, .int .i64 p, .slice (some ⟨g1, 0, none⟩) q.length q.length] 24)))
  have HO8' := HO8
  have HO1' := HO1
  have HO8 := Lib.hid (own_bl HO8.out (dbox w2 (.cells #[.int .i64 l, .int .i64 a, .int .i64 d, .int .i64 t, .int .i64 s, .int .i64 p, .slice (some ⟨g1, 0, none⟩) q.length q.length] 24)))
  have HO1 := Lib.hid (own_bl HO1.out (dbox w2 (.cells #[.int .i64 l, .int .i64 a, .int .i64 d, .int .i64 t, .int .i64 s, .int .i64 p, .slice (some ⟨g1, 0, none⟩) q.length q.length] 24)))
  have hw3 : w2.heap.size + 1 ≤ (w2.alloc (.cells #[.int .i64 l, .int .i64 a, .int .i64 d, .int .i64 t, .int .i64 s, .int .i64 p, .slice (some ⟨g1, 0, none⟩) q.length q.length] 24)).heap.size := by simp
  generalize w2.alloc (.cells #[.int .i64 l, .int .i64 a, .int .i64 d, .int .i64 t, .int .i64 s, .int .i64 p, .slice (some ⟨g1, 0, none⟩) q.length q.length] 24) = W3 at *
  go_cut [11, 12] (fun s11 s12 wx => ∃ g11 b11 c11, s11 = .pointer (some ⟨g11, 0, none⟩) ∧ s12 = .int .i64 k1 ∧ Hid (EvW w (.cells #[.int .i64 l, .int .i64 a, .int .i64 d, .int .i64 t, .int .i64 s, .int .i64 p, .slice b q.length c] 29) (.cells #[.int .i64 zk, .int .i64 zp, .int .i64 zd, .int .i64 zi, .int .i64 zq, .int .i64 zr] 31) g8 w2.heap.size g11 #[.int .i64 l', .int .i64 a', .int .i64 d', .int .i64 t', .int .i64 s', .int .i64 p', .slice b8 q'.length c8] #[.int .i64 l, .int .i64 a, .int .i64 d, .int .i64 t, .int .i64 s, .int .i64 p, .slice (some ⟨g1, 0, none⟩) q.length q.length] #[.int .i64 l', .int .i64 a', .int .i64 d', .int .i64 t', .int .i64 s', .int .i64 p', .slice b11 q'.length c11] (.slice b8 q'.length c8) (.slice (some ⟨g1, 0, none⟩) q.length q.length) (.slice b11 q'.length c11) q'.length q.length q'.length (kC q') (kC q) (kC q') wx ∧ wx.ownsRow W3.heap.size 3 1 (.slice b11 q'.length c11) q'.length (kC q') ∧ W3.heap.size ≤ g11))
  case first =>
    refine wp_region_phj 11 [some 35, some 36, some 37, some 38, some 39, some 34, some 40, some 41, some 11, none, some 12] (fun X => Below W3.heap.size W3 X) (herQ [atK 0 (isV (.agg #[.int .i64 l, .int .i64 a, .int .i64 d, .int .i64 t, .int .i64 s, .int .i64 p, .slice (some ⟨g1, 0, none⟩) q.length q.length])), atK 1 (isV (.agg #[.int .i64 zk, .int .i64 zp, .int .i64 zd, .int .i64 zi, .int .i64 zq, .int .i64 zr])), atK 2 (isV (.agg #[.int .i64 zk, .int .i64 zp, .int .i64 zd, .int .i64 zi, .int .i64 zq, .int .i64 zr])), atK 3 (isV (.int .i64 now)), atK 4 (isRes W3.heap.size l' a' d' t' s' p' q' [.int .i64 k1]), atK 5 (isRes W3.heap.size l' a' d' t' s' p' q' [.int .i64 k1]), atK 6 (isOwn W3.heap.size l' a' d' t' s' p' q'), atK 7 (isV (.int .i64 k1)), atK 8 (isNew W3.heap.size), storeQ W3.heap.size 9 8 l' a' d' t' s' p' q', atK 10 (isV (.int .i64 k1))]) (herD [atK 0 (isV (.agg #[.int .i64 l, .int .i64 a, .int .i64 d, .int .i64 t, .int .i64 s, .int .i64 p, .slice (some ⟨g1, 0, none⟩) q.length q.length])), atK 1 (isV (.agg #[.int .i64 zk, .int .i64 zp, .int .i64 zd, .int .i64 zi, .int .i64 zq, .int .i64 zr])), atK 2 (isV (.agg #[.int .i64 zk, .int .i64 zp, .int .i64 zd, .int .i64 zi, .int .i64 zq, .int .i64 zr])), atK 3 (isV (.int .i64 now)), atK 4 (isRes W3.heap.size l' a' d' t' s' p' q' [.int .i64 k1]), atK 5 (isRes W3.heap.size l' a' d' t' s' p' q' [.int .i64 k1]), atK 6 (isOwn W3.heap.size l' a' d' t' s' p' q'), atK 7 (isV (.int .i64 k1)), atK 8 (isNew W3.heap.size), storeQ W3.heap.size 9 8 l' a' d' t' s' p' q', atK 10 (isV (.int .i64 k1))]) (by kernel_rfl) (by kernel_rfl) (by kernel_rfl) (Below.refl _ _).drew ?steps ?fin
    case steps =>
      refine PjSteps.cons ?s0 (PjSteps.cons ?s1 (PjSteps.cons ?s2 (PjSteps.cons ?s3 (PjSteps.cons ?s4 (PjSteps.cons ?s5 (PjSteps.cons ?s6 (PjSteps.cons ?s7 (PjSteps.cons ?s8 (PjSteps.cons ?s9 (PjSteps.cons ?s10 (PjSteps.nil)))))))))))
      case s0 =>
        intro v f a X hat hS hv hnk hcl haf K hK
        have ev := hat.old 10 (fun k hk => absurd (List.mem_of_getElem? hk) (by decide))
        obtain ⟨tm, df⟩ := a
        have c0 := cell_of_row X w2.heap.size 0 _ _ _ (blk_bel HB1.out hS)
        have c1 := cell_of_row X w2.heap.size 1 _ _ _ (blk_bel HB1.out hS)
        have c2 := cell_of_row X w2.heap.size 2 _ _ _ (blk_bel HB1.out hS)
        have c3 := cell_of_row X w2.heap.size 3 _ _ _ (blk_bel HB1.out hS)
        have c4 := cell_of_row X w2.heap.size 4 _ _ _ (blk_bel HB1.out hS)
        have c5 := cell_of_row X w2.heap.size 5 _ _ _ (blk_bel HB1.out hS)
        have c6 := cell_of_row X w2.heap.size 6 _ _ _ (blk_bel HB1.out hS)
        go_simp
        exact hK.out _ _ (herQ_at rfl (show _ = _ from rfl)) (herQ_same hv hnk hcl _) hS
      case s1 =>
        intro v f a X hat hS hv hnk hcl haf K hK
        have ev := hat.old 4 (fun k hk => absurd (List.mem_of_getElem? hk) (by decide))
        obtain ⟨tm, df⟩ := a
        have c0 := cell_of_row X (w.heap.size + 1) 0 _ _ _ (blk_bel HX.out.box2 hS)
        have c1 := cell_of_row X (w.heap.size + 1) 1 _ _ _ (blk_bel HX.out.box2 hS)
        have c2 := cell_of_row X (w.heap.size + 1) 2 _ _ _ (blk_bel HX.out.box2 hS)
        have c3 := cell_of_row X (w.heap.size + 1) 3 _ _ _ (blk_bel HX.out.box2 hS)
        have c4 := cell_of_row X (w.heap.size + 1) 4 _ _ _ (blk_bel HX.out.box2 hS)
        have c5 := cell_of_row X (w.heap.size + 1) 5 _ _ _ (blk_bel HX.out.box2 hS)
        go_simp
        exact hK.out _ _ (herQ_at rfl (show _ = _ from rfl)) (herQ_same hv hnk hcl _) hS
      case s2 =>
        intro v f a X hat hS hv hnk hcl haf K hK
        have f0 := ph_haf haf 1 (by kernel_rfl)
        have ev0 := hat.done 1 36 f0 rfl
        have h0 := hv 1 f0
        rw [show v 1 = _ from h0] at ev0
        obtain ⟨tm, df⟩ := a
        go_simp
        refine Calls.mono (HTT.out _) ?_
        rintro e Y ⟨rfl, hb⟩
        exact hK.out _ _ (herQ_at rfl (show _ = _ from rfl)) (herQ_keep hv hnk hcl hb _) (hS.trans (hb.mono hS.size))
      case s3 =>
        intro v f a X hat hS hv hnk hcl haf K hK
        have ev := hat.old 2 (fun k hk => absurd (List.mem_of_getElem? hk) (by decide))
        obtain ⟨tm, df⟩ := a
        go_simp
        exact hK.out _ _ (herQ_at rfl (show _ = _ from rfl)) (herQ_same hv hnk hcl _) hS
      case s4 =>
        intro v f a X hat hS hv hnk hcl haf K hK
        have f0 := ph_haf haf 0 (by kernel_rfl)
        have ev0 := hat.done 0 35 f0 rfl
        have h0 := hv 0 f0
        rw [show v 0 = _ from h0] at ev0
        have f1 := ph_haf haf 2 (by kernel_rfl)
        have ev1 := hat.done 2 37 f1 rfl
        have h1 := hv 2 f1
        rw [show v 2 = _ from h1] at ev1
        have f2 := ph_haf haf 3 (by kernel_rfl)
        have ev2 := hat.done 3 38 f2 rfl
        have h2 := hv 3 f2
        rw [show v 3 = _ from h2] at ev2
        obtain ⟨tm, df⟩ := a
        go_simp
        refine Calls.mono (HI.out (some ⟨g1, 0, none⟩) q.length _ ((lies_own HO1.out).below hS (Nat.le_refl _))) ?_
        rintro e Y ⟨b9, c9, rfl, ho, hb⟩
        exact hK.out _ _ (herQ_at rfl (⟨b9, c9, rfl, own_base ho hS.size⟩)) (herQ_keep hv hnk hcl hb _) (hS.trans (hb.mono hS.size))
      case s5 =>
        intro v f a X hat hS hv hnk hcl haf K hK
        have f0 := ph_haf haf 4 (by kernel_rfl)
        have ev0 := hat.done 4 39 f0 rfl
        obtain ⟨b0, c0, h0, o0⟩ := hv 4 f0
        rw [h0] at ev0
        obtain ⟨tm, df⟩ := a
        go_simp
        exact hK.out _ _ (herQ_at rfl (⟨b0, c0, rfl, o0⟩)) (herQ_same hv hnk hcl _) hS
      case s6 =>
        intro v f a X hat hS hv hnk hcl haf K hK
        have f0 := ph_haf haf 5 (by kernel_rfl)
        have ev0 := hat.done 5 34 f0 rfl
        obtain ⟨b0, c0, h0, o0⟩ := hv 5 f0
        rw [h0] at ev0
        obtain ⟨tm, df⟩ := a
        go_simp
        exact hK.out _ _ (herQ_at rfl (⟨b0, c0, rfl, o0⟩)) (herQ_same hv hnk hcl _) hS
      case s7 =>
        intro v f a X hat hS hv hnk hcl haf K hK
        have f0 := ph_haf haf 5 (by kernel_rfl)
        have ev0 := hat.done 5 34 f0 rfl
        obtain ⟨b0, c0, h0, o0⟩ := hv 5 f0
        rw [h0] at ev0
        obtain ⟨tm, df⟩ := a
        go_simp
        exact hK.out _ _ (herQ_at rfl (show _ = _ from rfl)) (herQ_same hv hnk hcl _) hS
      case s8 =>
        intro v f a X hat hS hv hnk hcl haf K hK
        obtain ⟨tm, df⟩ := a
        go_simp
        exact hK.out _ _ (herQ_at rfl ⟨X.heap.size, rfl, hS.size, _, _, _, _, _, _, _, heap_alloc_new X _⟩) (herQ_keep hv hnk hcl (dbox X _) _) (hS.trans ((dbox X _).mono hS.size))
      case s9 =>
        intro v f a X hat hS hv hnk hcl haf K hK
        have f0 := ph_haf haf 8 (by kernel_rfl)
        have ev0 := hat.done 8 11 f0 rfl
        obtain ⟨gn0, h0, hB0, x0, x1, x2, x3, x4, x5, x6, hbx0⟩ := hv 8 f0
        rw [h0] at ev0
        have f1 := ph_haf haf 6 (by kernel_rfl)
        have ev1 := hat.done 6 40 f1 rfl
        obtain ⟨b1, c1, h1, o1⟩ := hv 6 f1
        rw [h1] at ev1
        obtain ⟨tm, df⟩ := a
        have e0 := cell_of_row X gn0 0 _ _ _ hbx0
        have z0 := frozen_of_row X gn0 0 _ _ hbx0
        have e1 := cell_of_row X gn0 1 _ _ _ hbx0
        have z1 := frozen_of_row X gn0 1 _ _ hbx0
        have e2 := cell_of_row X gn0 2 _ _ _ hbx0
        have z2 := frozen_of_row X gn0 2 _ _ hbx0
        have e3 := cell_of_row X gn0 3 _ _ _ hbx0
        have z3 := frozen_of_row X gn0 3 _ _ hbx0
        have e4 := cell_of_row X gn0 4 _ _ _ hbx0
        have z4 := frozen_of_row X gn0 4 _ _ hbx0
        have e5 := cell_of_row X gn0 5 _ _ _ hbx0
        have z5 := frozen_of_row X gn0 5 _ _ hbx0
        have e6 := cell_of_row X gn0 6 _ _ _ hbx0
        have z6 := frozen_of_row X gn0 6 _ _ hbx0
        go_simp
        refine hK.out undef _ ?h1 ?h2 (ev_bel7 hS (by omega) _ _ _ _ _ _ _)
        case h1 => exact ⟨gn0, b1, c1, (phU_ne (by decide)).trans h0, hB0, st7_box hbx0 _ _ _ _ _ _ _, st7_own o1 (own_ne o1 hbx0 (by decide)) _ _ _ _ _ _ _⟩
        case h2 =>
          intro j hj
          have hq := herQ_same hv hnk hcl undef j hj
          rcases j with _ | _ | _ | _ | _ | _ | _ | _ | _ | _ | _ | _
          · show (_ : Value) = _
            exact hq
          · show (_ : Value) = _
            exact hq
          · show (_ : Value) = _
            exact hq
          · show (_ : Value) = _
            exact hq
          · exact let ⟨b, c, h1, h2⟩ := hq; ⟨b, c, h1, st7_own h2 (own_ne h2 hbx0 (by decide)) _ _ _ _ _ _ _⟩
          · exact let ⟨b, c, h1, h2⟩ := hq; ⟨b, c, h1, st7_own h2 (own_ne h2 hbx0 (by decide)) _ _ _ _ _ _ _⟩
          · exact let ⟨b, c, h1, h2⟩ := hq; ⟨b, c, h1, st7_own h2 (own_ne h2 hbx0 (by decide)) _ _ _ _ _ _ _⟩
          · show (_ : Value) = _
            exact hq
          · obtain ⟨g', h1, h2, y0, y1, y2, y3, y4, y5, y6, h3⟩ := hq
            obtain rfl : g' = gn0 := by
              have := h1.symm.trans ((phU_ne (by decide)).trans h0)
              simpa using this
            exact ⟨g', h1, h2, _, _, _, _, _, _, _, st7_box h3 _ _ _ _ _ _ _⟩
          · exact absurd hj (by rw [hnk]; decide)
          · show (_ : Value) = _
            exact hq
          · trivial
      case s10 =>
        intro v f a X hat hS hv hnk hcl haf K hK
        have f0 := ph_haf haf 7 (by kernel_rfl)
        have ev0 := hat.done 7 41 f0 rfl
        have h0 := hv 7 f0
        rw [show v 7 = _ from h0] at ev0
        obtain ⟨tm, df⟩ := a
        go_simp
        exact hK.out _ _ (herQ_at rfl (show _ = _ from rfl)) (herQ_same hv hnk hcl _) hS
    case fin =>
      intro v X hX hv
      obtain ⟨g, bR, cR, hg, hBg, hbx, ho⟩ := hv 9 (by decide)
      have r0 := hv 10 (by decide)
      simp only [pjAll, Act.put, List.setIfInBounds_toArray, List.set_cons_zero, List.set_cons_succ]
      rw [show v 8 = _ from hg, show v 10 = _ from r0]
      simp only [phTail, List.drop_succ_cons, List.drop_zero]
      go_wp2_with fail
      go_meet
      exact ⟨g, bR, cR, rfl, rfl, Lib.hid ⟨⟨HX.out.to hX, blk_bel HB8.out hX, blk_bel HB1.out hX, hbx, own_base (own_bl HO8.out hX) (by omega), own_base (own_bl HO1.out hX) (by omega), own_base ho (by omega)⟩, ho, hBg⟩⟩
  case rest =>
  obtain ⟨g11, b11, c11, rfl, rfl, hc⟩ := hcut
  have HE := Lib.hid hc.out.1
  have D8 := Lib.hid (ob_ne HO8.out hc.out.2.1 (Nat.le_refl _))
  have D1 := Lib.hid (ob_ne HO1.out hc.out.2.1 (Nat.le_refl _))
  have D1' := Lib.hid (ob_ne' HO1.out hc.out.2.1 (Nat.le_refl _))
  have hg11 := hc.out.2.2
  clear hc HX HB8 HO8 HB1 HO1 HOC HO8' HO1'
  have nk1 : (k1 != k1) = false := by simp
  have c0 := cell_of_row wc g11 0 _ _ _ HE.out.b11
  have c1 := cell_of_row wc g11 1 _ _ _ HE.out.b11
  have c2 := cell_of_row wc g11 2 _ _ _ HE.out.b11
  have c3 := cell_of_row wc g11 3 _ _ _ HE.out.b11
  have c4 := cell_of_row wc g11 4 _ _ _ HE.out.b11
  have c5 := cell_of_row wc g11 5 _ _ _ HE.out.b11
  have c6 := cell_of_row wc g11 6 _ _ _ HE.out.b11
  have d0 := cell_of_row wc g8 0 _ _ _ HE.out.b8
  have d1 := cell_of_row wc g8 1 _ _ _ HE.out.b8
  have d2 := cell_of_row wc g8 2 _ _ _ HE.out.b8
  have d3 := cell_of_row wc g8 3 _ _ _ HE.out.b8
  have d4 := cell_of_row wc g8 4 _ _ _ HE.out.b8
  have d5 := cell_of_row wc g8 5 _ _ _ HE.out.b8
  have d6 := cell_of_row wc g8 6 _ _ _ HE.out.b8
  go_wp2_with fail
  refine Calls.mono (HEQ'.out b11 b8 c11 c8 _ (lies_own HE.out.o11) (lies_own HE.out.o8)) ?_
  rintro e w4 ⟨rfl, hb⟩
  have HE := Lib.hid (HE.out.to hb)
  clear hb
  clear c0 c1 c2 c3 c4 c5 c6 d0 d1 d2 d3 d4 d5 d6
  go_upto_region 10 with (fail)
  go_cut [55] (fun s55 wx => s55 = .bool false ∧ Hid (EvW w (.cells #[.int .i64 l, .int .i64 a, .int .i64 d, .int .i64 t, .int .i64 s, .int .i64 p, .slice b q.length c] 29) (.cells #[.int .i64 zk, .int .i64 zp, .int .i64 zd, .int .i64 zi, .int .i64 zq, .int .i64 zr] 31) g8 w2.heap.size g11 #[.int .i64 l', .int .i64 a', .int .i64 d', .int .i64 t', .int .i64 s', .int .i64 p', .slice b8 q'.length c8] #[.int .i64 l, .int .i64 a, .int .i64 d, .int .i64 t, .int .i64 s, .int .i64 p, .slice (some ⟨g1, 0, none⟩) q.length q.length] #[.int .i64 l', .int .i64 a', .int .i64 d', .int .i64 t', .int .i64 s', .int .i64 p', .slice b11 q'.length c11] (.slice b8 q'.length c8) (.slice (some ⟨g1, 0, none⟩) q.length q.length) (.slice b11 q'.length c11) q'.length q.length q'.length (kC q') (kC q) (kC q') wx))
  case first =>
    refine wp_region_phi 4 [51, 52, 53, 54] (fun X => Below w4.heap.size w4 X) (herL [isV (.agg #[.int .i64 l, .int .i64 a, .int .i64 d, .int .i64 t, .int .i64 s, .int .i64 p, .slice (some ⟨g1, 0, none⟩) q.length q.length]), isV (.agg #[.int .i64 l, .int .i64 a, .int .i64 d, .int .i64 t, .int .i64 s, .int .i64 p, .slice b q.length c]), isSrc l a d t s p q, isV (.bool true)]) (by kernel_rfl) (by kernel_rfl) (by kernel_rfl) (herL_keep _) (fun X Y h hb => h.trans (hb.mono h.size)) ((Below.refl _ _).drew) ?steps ?fin
    case steps =>
      refine PhSteps.cons ?s0 (PhSteps.cons ?s1 (PhSteps.cons ?s2 (PhSteps.cons ?s3 (PhSteps.nil))))
      case s0 =>
        intro v f a X hat hS hv haf K hK
        have ev := hat.old 10 (fun k hk => absurd (List.mem_of_getElem? hk) (by decide))
        obtain ⟨tm, df⟩ := a
        have c0 := cell_of_row X w2.heap.size 0 _ _ _ (blk_bel HE.out.b1 hS)
        have c1 := cell_of_row X w2.heap.size 1 _ _ _ (blk_bel HE.out.b1 hS)
        have c2 := cell_of_row X w2.heap.size 2 _ _ _ (blk_bel HE.out.b1 hS)
        have c3 := cell_of_row X w2.heap.size 3 _ _ _ (blk_bel HE.out.b1 hS)
        have c4 := cell_of_row X w2.heap.size 4 _ _ _ (blk_bel HE.out.b1 hS)
        have c5 := cell_of_row X w2.heap.size 5 _ _ _ (blk_bel HE.out.b1 hS)
        have c6 := cell_of_row X w2.heap.size 6 _ _ _ (blk_bel HE.out.b1 hS)
        go_simp
        exact hK.out _ _ (show _ = _ from rfl) (Below.refl _ _)
      case s1 =>
        intro v f a X hat hS hv haf K hK
        have ev := hat.old 3 (fun k hk => absurd (List.mem_of_getElem? hk) (by decide))
        obtain ⟨tm, df⟩ := a
        have c0 := cell_of_row X w.heap.size 0 _ _ _ (blk_bel HE.out.hx.box hS)
        have c1 := cell_of_row X w.heap.size 1 _ _ _ (blk_bel HE.out.hx.box hS)
        have c2 := cell_of_row X w.heap.size 2 _ _ _ (blk_bel HE.out.hx.box hS)
        have c3 := cell_of_row X w.heap.size 3 _ _ _ (blk_bel HE.out.hx.box hS)
        have c4 := cell_of_row X w.heap.size 4 _ _ _ (blk_bel HE.out.hx.box hS)
        have c5 := cell_of_row X w.heap.size 5 _ _ _ (blk_bel HE.out.hx.box hS)
        have c6 := cell_of_row X w.heap.size 6 _ _ _ (blk_bel HE.out.hx.box hS)
        go_simp
        exact hK.out _ _ (show _ = _ from rfl) (Below.refl _ _)
      case s2 =>
        intro v f a X hat hS hv haf K hK
        have f0 := ph_haf haf 1 (by kernel_rfl)
        have ev0 := hat.done 1 52 f0 rfl
        have h0 := hv 1 f0
        rw [show v 1 = _ from h0] at ev0
        obtain ⟨tm, df⟩ := a
        go_simp
        refine Calls.mono (HTS.out b c _ (HZ.out.below (HE.out.hx.bel.trans (hS.mono HE.out.hx.bel.size)) (Nat.le_refl _))) ?_
        rintro e Y ⟨g, rfl, ho, hb⟩
        exact hK.out _ _ (⟨_, _, rfl, lies_own ho, Nat.le_refl _, by intro h; cases h⟩) hb
      case s3 =>
        intro v f a X hat hS hv haf K hK
        have f0 := ph_haf haf 0 (by kernel_rfl)
        have ev0 := hat.done 0 51 f0 rfl
        have h0 := hv 0 f0
        rw [show v 0 = _ from h0] at ev0
        have f1 := ph_haf haf 2 (by kernel_rfl)
        have ev1 := hat.done 2 53 f1 rfl
        obtain ⟨b1, c1, h1, l1, ft1⟩ := hv 2 f1
        rw [h1] at ev1
        obtain ⟨tm, df⟩ := a
        go_simp
        refine Calls.mono (HEQ.out (some ⟨g1, 0, none⟩) b1 q.length c1 _ ((lies_own HE.out.o1).below hS (Nat.le_refl _)) l1) ?_
        rintro e Y ⟨rfl, hb⟩
        exact hK.out _ _ (show _ = _ from rfl) hb
    case fin =>
      intro v X hX hv
      have r0 := hv 3 (by decide)
      simp only [phAll, Act.put, List.setIfInBounds_toArray, List.set_cons_zero, List.set_cons_succ]
      rw [show v 3 = _ from r0]
      simp only [phTail, List.drop_succ_cons, List.drop_zero]
      go_wp2_with fail
      go_meet
      exact ⟨rfl, Lib.hid (HE.out.to hX)⟩
  case rest =>
  obtain ⟨rfl, HE⟩ := hcut
  have c0 := cell_of_row wc w2.heap.size 0 _ _ _ HE.out.b1
  have c1 := cell_of_row wc w2.heap.size 1 _ _ _ HE.out.b1
  have c2 := cell_of_row wc w2.heap.size 2 _ _ _ HE.out.b1
  have c3 := cell_of_row wc w2.heap.size 3 _ _ _ HE.out.b1
  have c4 := cell_of_row wc w2.heap.size 4 _ _ _ HE.out.b1
  have c5 := cell_of_row wc w2.heap.size 5 _ _ _ HE.out.b1
  have c6 := cell_of_row wc w2.heap.size 6 _ _ _ HE.out.b1
  go_wp2_with fail
  refine Calls.mono (HMK.out _ _ _ _ _ HE.out.o1) ?_
  rintro e w5 ⟨rfl, ho, hg⟩
  have HE := Lib.hid (HE.out.m1 ho hg D81.out D1'.out)
  clear ho hg c0 c1 c2 c3 c4 c5 c6
  have nk0 : ¬ ((1 : Int) + q.length < 0) := by omega
  have c0 := cell_of_row w5 g11 0 _ _ _ HE.out.b11
  have c1 := cell_of_row w5 g11 1 _ _ _ HE.out.b11
  have c2 := cell_of_row w5 g11 2 _ _ _ HE.out.b11
  have c3 := cell_of_row w5 g11 3 _ _ _ HE.out.b11
  have c4 := cell_of_row w5 g11 4 _ _ _ HE.out.b11
  have c5 := cell_of_row w5 g11 5 _ _ _ HE.out.b11
  have c6 := cell_of_row w5 g11 6 _ _ _ HE.out.b11
  have d0 := cell_of_row w5 g8 0 _ _ _ HE.out.b8
  have d1 := cell_of_row w5 g8 1 _ _ _ HE.out.b8
  have d2 := cell_of_row w5 g8 2 _ _ _ HE.out.b8
  have d3 := cell_of_row w5 g8 3 _ _ _ HE.out.b8
  have d4 := cell_of_row w5 g8 4 _ _ _ HE.out.b8
  have d5 := cell_of_row w5 g8 5 _ _ _ HE.out.b8
  have d6 := cell_of_row w5 g8 6 _ _ _ HE.out.b8
  go_wp2_with fail
  refine Calls.mono (HEQ'.out b11 b8 c11 c8 _ (lies_own HE.out.o11) (lies_own HE.out.o8)) ?_
  rintro e w6 ⟨rfl, hb⟩
  have HE := Lib.hid (HE.out.to hb)
  clear hb
  clear c0 c1 c2 c3 c4 c5 c6 d0 d1 d2 d3 d4 d5 d6
  have c0 := cell_of_row w6 g11 0 _ _ _ HE.out.b11
  have c1 := cell_of_row w6 g11 1 _ _ _ HE.out.b11
  have c2 := cell_of_row w6 g11 2 _ _ _ HE.out.b11
  have c3 := cell_of_row w6 g11 3 _ _ _ HE.out.b11
  have c4 := cell_of_row w6 g11 4 _ _ _ HE.out.b11
  have c5 := cell_of_row w6 g11 5 _ _ _ HE.out.b11
  have c6 := cell_of_row w6 g11 6 _ _ _ HE.out.b11
  go_wp2_with fail
  refine Calls.mono (HMK'.out _ _ _ _ _ HE.out.o11) ?_
  rintro e w7 ⟨rfl, ho, hg⟩
  have HE := Lib.hid (HE.out.m11 ho hg D8.out D1.out)
  clear ho hg c0 c1 c2 c3 c4 c5 c6
  have nk1 : ¬ ((1 : Int) + q'.length < 0) := by omega
  have nk2 : ((1 : Int) + q'.length != 1 + q'.length) = false := by simp
  have c0 := cell_of_row w7 g11 0 _ _ _ HE.out.b11
  have c1 := cell_of_row w7 g11 1 _ _ _ HE.out.b11
  have c2 := cell_of_row w7 g11 2 _ _ _ HE.out.b11
  have c3 := cell_of_row w7 g11 3 _ _ _ HE.out.b11
  have c4 := cell_of_row w7 g11 4 _ _ _ HE.out.b11
  have c5 := cell_of_row w7 g11 5 _ _ _ HE.out.b11
  have c6 := cell_of_row w7 g11 6 _ _ _ HE.out.b11
  go_wp2_with fail
  refine Calls.mono (HHD'.out _ _ _ (lies_own HE.out.o11)) ?_
  rintro e w8 ⟨rfl, hb⟩
  have HE := Lib.hid (HE.out.to hb)
  clear hb c0 c1 c2 c3 c4 c5 c6
  go_upto_region 24 with (fail)
  have hw8 : g11 < w8.heap.size := (Array.getElem?_eq_some_iff.1 HE.out.b11).1
  go_cut [16, 17] (fun s16 s17 wx => ∃ g16 b16 c16, s16 = .pointer (some ⟨g16, 0, none⟩) ∧ s17 = .int .i64 k1 ∧ Hid (EvW w (.cells #[.int .i64 l, .int .i64 a, .int .i64 d, .int .i64 t, .int .i64 s, .int .i64 p, .slice b q.length c] 29) (.cells #[.int .i64 zk, .int .i64 zp, .int .i64 zd, .int .i64 zi, .int .i64 zq, .int .i64 zr] 31) g8 w2.heap.size g11 #[.int .i64 l', .int .i64 a', .int .i64 d', .int .i64 t', .int .i64 s', .int .i64 p', .slice b8 q'.length c8] #[.int .i64 l, .int .i64 a, .int .i64 d, .int .i64 t, .int .i64 s, .int .i64 p, .slice (some ⟨g1, 0, none⟩) q.length q.length] #[.int .i64 l', .int .i64 a', .int .i64 d', .int .i64 t', .int .i64 s', .int .i64 p', .slice b11 q'.length c11] (.slice b8 q'.length c8) (.slice (some ⟨g1, 0, none⟩) q.length q.length) (.slice b11 q'.length c11) q'.length q.length q'.length (kC q') (kC (marksI 1 q.length)) (kC (marksI 1 q'.length)) wx ∧ wx.heap[g16]? = some (.cells #[.int .i64 l', .int .i64 a', .int .i64 d', .int .i64 t', .int .i64 s', .int .i64 p', .slice b16 q'.length c16] 24) ∧ wx.ownsRow w8.heap.size 3 1 (.slice b16 q'.length c16) q'.length (kC q')))
  case first =>
    refine wp_region_phj 12 [some 84, some 85, some 86, some 87, some 88, some 89, some 83, some 90, some 91, some 16, none, some 17] (fun X => Below w8.heap.size w8 X) (herQ [atK 0 (isV (.agg #[.int .i64 l, .int .i64 a, .int .i64 d, .int .i64 t, .int .i64 s, .int .i64 p, .slice b q.length c])), atK 1 (isOwn w8.heap.size l a d t s p q), atK 2 (isV (.agg #[.int .i64 zk, .int .i64 zp, .int .i64 zd, .int .i64 zi, .int .i64 zq, .int .i64 zr])), atK 3 (isV (.agg #[.int .i64 zk, .int .i64 zp, .int .i64 zd, .int .i64 zi, .int .i64 zq, .int .i64 zr])), atK 4 (isV (.int .i64 now)), atK 5 (isRes w8.heap.size l' a' d' t' s' p' q' [.int .i64 k1]), atK 6 (isRes w8.heap.size l' a' d' t' s' p' q' [.int .i64 k1]), atK 7 (isOwn w8.heap.size l' a' d' t' s' p' q'), atK 8 (isV (.int .i64 k1)), atK 9 (isNew w8.heap.size), storeQ w8.heap.size 10 9 l' a' d' t' s' p' q', atK 11 (isV (.int .i64 k1))]) (herD [atK 0 (isV (.agg #[.int .i64 l, .int .i64 a, .int .i64 d, .int .i64 t, .int .i64 s, .int .i64 p, .slice b q.length c])), atK 1 (isOwn w8.heap.size l a d t s p q), atK 2 (isV (.agg #[.int .i64 zk, .int .i64 zp, .int .i64 zd, .int .i64 zi, .int .i64 zq, .int .i64 zr])), atK 3 (isV (.agg #[.int .i64 zk, .int .i64 zp, .int .i64 zd, .int .i64 zi, .int .i64 zq, .int .i64 zr])), atK 4 (isV (.int .i64 now)), atK 5 (isRes w8.heap.size l' a' d' t' s' p' q' [.int .i64 k1]), atK 6 (isRes w8.heap.size l' a' d' t' s' p' q' [.int .i64 k1]), atK 7 (isOwn w8.heap.size l' a' d' t' s' p' q'), atK 8 (isV (.int .i64 k1)), atK 9 (isNew w8.heap.size), storeQ w8.heap.size 10 9 l' a' d' t' s' p' q', atK 11 (isV (.int .i64 k1))]) (by kernel_rfl) (by kernel_rfl) (by kernel_rfl) (Below.refl _ _).drew ?steps ?fin
    case steps =>
      refine PjSteps.cons ?s0 (PjSteps.cons ?s1 (PjSteps.cons ?s2 (PjSteps.cons ?s3 (PjSteps.cons ?s4 (PjSteps.cons ?s5 (PjSteps.cons ?s6 (PjSteps.cons ?s7 (PjSteps.cons ?s8 (PjSteps.cons ?s9 (PjSteps.cons ?s10 (PjSteps.cons ?s11 (PjSteps.nil))))))))))))
      case s0 =>
        intro v f a X hat hS hv hnk hcl haf K hK
        have ev := hat.old 3 (fun k hk => absurd (List.mem_of_getElem? hk) (by decide))
        obtain ⟨tm, df⟩ := a
        have c0 := cell_of_row X w.heap.size 0 _ _ _ (blk_bel HE.out.hx.box hS)
        have c1 := cell_of_row X w.heap.size 1 _ _ _ (blk_bel HE.out.hx.box hS)
        have c2 := cell_of_row X w.heap.size 2 _ _ _ (blk_bel HE.out.hx.box hS)
        have c3 := cell_of_row X w.heap.size 3 _ _ _ (blk_bel HE.out.hx.box hS)
        have c4 := cell_of_row X w.heap.size 4 _ _ _ (blk_bel HE.out.hx.box hS)
        have c5 := cell_of_row X w.heap.size 5 _ _ _ (blk_bel HE.out.hx.box hS)
        have c6 := cell_of_row X w.heap.size 6 _ _ _ (blk_bel HE.out.hx.box hS)
        go_simp
        exact hK.out _ _ (herQ_at rfl (show _ = _ from rfl)) (herQ_same hv hnk hcl _) hS
      case s1 =>
        intro v f a X hat hS hv hnk hcl haf K hK
        have f0 := ph_haf haf 0 (by kernel_rfl)
        have ev0 := hat.done 0 84 f0 rfl
        have h0 := hv 0 f0
        rw [show v 0 = _ from h0] at ev0
        obtain ⟨tm, df⟩ := a
        go_simp
        refine Calls.mono (HTS.out b c _ (HZ.out.below (HE.out.hx.bel.trans (hS.mono HE.out.hx.bel.size)) (Nat.le_refl _))) ?_
        rintro e Y ⟨g, rfl, ho, hb⟩
        exact hK.out _ _ (herQ_at rfl (⟨_, _, rfl, own_base ho hS.size⟩)) (herQ_keep hv hnk hcl hb _) (hS.trans (hb.mono hS.size))
      case s2 =>
        intro v f a X hat hS hv hnk hcl haf K hK
        have ev := hat.old 4 (fun k hk => absurd (List.mem_of_getElem? hk) (by decide))
        obtain ⟨tm, df⟩ := a
        have c0 := cell_of_row X (w.heap.size + 1) 0 _ _ _ (blk_bel HE.out.hx.box2 hS)
        have c1 := cell_of_row X (w.heap.size + 1) 1 _ _ _ (blk_bel HE.out.hx.box2 hS)
        have c2 := cell_of_row X (w.heap.size + 1) 2 _ _ _ (blk_bel HE.out.hx.box2 hS)
        have c3 := cell_of_row X (w.heap.size + 1) 3 _ _ _ (blk_bel HE.out.hx.box2 hS)
        have c4 := cell_of_row X (w.heap.size + 1) 4 _ _ _ (blk_bel HE.out.hx.box2 hS)
        have c5 := cell_of_row X (w.heap.size + 1) 5 _ _ _ (blk_bel HE.out.hx.box2 hS)
        go_simp
        exact hK.out _ _ (herQ_at rfl (show _ = _ from rfl)) (herQ_same hv hnk hcl _) hS
      case s3 =>
        intro v f a X hat hS hv hnk hcl haf K hK
        have f0 := ph_haf haf 2 (by kernel_rfl)
        have ev0 := hat.done 2 86 f0 rfl
        have h0 := hv 2 f0
        rw [show v 2 = _ from h0] at ev0
        obtain ⟨tm, df⟩ := a
        go_simp
        refine Calls.mono (HTT.out _) ?_
        rintro e Y ⟨rfl, hb⟩
        exact hK.out _ _ (herQ_at rfl (show _ = _ from rfl)) (herQ_keep hv hnk hcl hb _) (hS.trans (hb.mono hS.size))
      case s4 =>
        intro v f a X hat hS hv hnk hcl haf K hK
        have ev := hat.old 2 (fun k hk => absurd (List.mem_of_getElem? hk) (by decide))
        obtain ⟨tm, df⟩ := a
        go_simp
        exact hK.out _ _ (herQ_at rfl (show _ = _ from rfl)) (herQ_same hv hnk hcl _) hS
      case s5 =>
        intro v f a X hat hS hv hnk hcl haf K hK
        have f0 := ph_haf haf 1 (by kernel_rfl)
        have ev0 := hat.done 1 85 f0 rfl
        obtain ⟨b0, c0, h0, o0⟩ := hv 1 f0
        rw [h0] at ev0
        have f1 := ph_haf haf 3 (by kernel_rfl)
        have ev1 := hat.done 3 87 f1 rfl
        have h1 := hv 3 f1
        rw [show v 3 = _ from h1] at ev1
        have f2 := ph_haf haf 4 (by kernel_rfl)
        have ev2 := hat.done 4 88 f2 rfl
        have h2 := hv 4 f2
        rw [show v 4 = _ from h2] at ev2
        obtain ⟨tm, df⟩ := a
        go_simp
        refine Calls.mono (HI.out b0 c0 _ (lies_own o0)) ?_
        rintro e Y ⟨b9, c9, rfl, ho, hb⟩
        exact hK.out _ _ (herQ_at rfl (⟨b9, c9, rfl, own_base ho hS.size⟩)) (herQ_keep hv hnk hcl hb _) (hS.trans (hb.mono hS.size))
      case s6 =>
        intro v f a X hat hS hv hnk hcl haf K hK
        have f0 := ph_haf haf 5 (by kernel_rfl)
        have ev0 := hat.done 5 89 f0 rfl
        obtain ⟨b0, c0, h0, o0⟩ := hv 5 f0
        rw [h0] at ev0
        obtain ⟨tm, df⟩ := a
        go_simp
        exact hK.out _ _ (herQ_at rfl (⟨b0, c0, rfl, o0⟩)) (herQ_same hv hnk hcl _) hS
      case s7 =>
        intro v f a X hat hS hv hnk hcl haf K hK
        have f0 := ph_haf haf 6 (by kernel_rfl)
        have ev0 := hat.done 6 83 f0 rfl
        obtain ⟨b0, c0, h0, o0⟩ := hv 6 f0
        rw [h0] at ev0
        obtain ⟨tm, df⟩ := a
        go_simp
        exact hK.out _ _ (herQ_at rfl (⟨b0, c0, rfl, o0⟩)) (herQ_same hv hnk hcl _) hS
      case s8 =>
        intro v f a X hat hS hv hnk hcl haf K hK
        have f0 := ph_haf haf 6 (by kernel_rfl)
        have ev0 := hat.done 6 83 f0 rfl
        obtain ⟨b0, c0, h0, o0⟩ := hv 6 f0
        rw [h0] at ev0
        obtain ⟨tm, df⟩ := a
        go_simp
        exact hK.out _ _ (herQ_at rfl (show _ = _ from rfl)) (herQ_same hv hnk hcl _) hS
      case s9 =>
        intro v f a X hat hS hv hnk hcl haf K hK
        obtain ⟨tm, df⟩ := a
        go_simp
        exact hK.out _ _ (herQ_at rfl ⟨X.heap.size, rfl, hS.size, _, _, _, _, _, _, _, heap_alloc_new X _⟩) (herQ_keep hv hnk hcl (dbox X _) _) (hS.trans ((dbox X _).mono hS.size))
      case s10 =>
        intro v f a X hat hS hv hnk hcl haf K hK
        have f0 := ph_haf haf 9 (by kernel_rfl)
        have ev0 := hat.done 9 16 f0 rfl
        obtain ⟨gn0, h0, hB0, x0, x1, x2, x3, x4, x5, x6, hbx0⟩ := hv 9 f0
        rw [h0] at ev0
        have f1 := ph_haf haf 7 (by kernel_rfl)
        have ev1 := hat.done 7 90 f1 rfl
        obtain ⟨b1, c1, h1, o1⟩ := hv 7 f1
        rw [h1] at ev1
        obtain ⟨tm, df⟩ := a
        have e0 := cell_of_row X gn0 0 _ _ _ hbx0
        have z0 := frozen_of_row X gn0 0 _ _ hbx0
        have e1 := cell_of_row X gn0 1 _ _ _ hbx0
        have z1 := frozen_of_row X gn0 1 _ _ hbx0
        have e2 := cell_of_row X gn0 2 _ _ _ hbx0
        have z2 := frozen_of_row X gn0 2 _ _ hbx0
        have e3 := cell_of_row X gn0 3 _ _ _ hbx0
        have z3 := frozen_of_row X gn0 3 _ _ hbx0
        have e4 := cell_of_row X gn0 4 _ _ _ hbx0
        have z4 := frozen_of_row X gn0 4 _ _ hbx0
        have e5 := cell_of_row X gn0 5 _ _ _ hbx0
        have z5 := frozen_of_row X gn0 5 _ _ hbx0
        have e6 := cell_of_row X gn0 6 _ _ _ hbx0
        have z6 := frozen_of_row X gn0 6 _ _ hbx0
        go_simp
        refine hK.out undef _ ?h1 ?h2 (ev_bel7 hS (by omega) _ _ _ _ _ _ _)
        case h1 => exact ⟨gn0, b1, c1, (phU_ne (by decide)).trans h0, hB0, st7_box hbx0 _ _ _ _ _ _ _, st7_own o1 (own_ne o1 hbx0 (by decide)) _ _ _ _ _ _ _⟩
        case h2 =>
          intro j hj
          have hq := herQ_same hv hnk hcl undef j hj
          rcases j with _ | _ | _ | _ | _ | _ | _ | _ | _ | _ | _ | _ | _
          · show (_ : Value) = _
            exact hq
          · exact let ⟨b, c, h1, h2⟩ := hq; ⟨b, c, h1, st7_own h2 (own_ne h2 hbx0 (by decide)) _ _ _ _ _ _ _⟩
          · show (_ : Value) = _
            exact hq
          · show (_ : Value) = _
            exact hq
          · show (_ : Value) = _
            exact hq
          · exact let ⟨b, c, h1, h2⟩ := hq; ⟨b, c, h1, st7_own h2 (own_ne h2 hbx0 (by decide)) _ _ _ _ _ _ _⟩
          · exact let ⟨b, c, h1, h2⟩ := hq; ⟨b, c, h1, st7_own h2 (own_ne h2 hbx0 (by decide)) _ _ _ _ _ _ _⟩
          · exact let ⟨b, c, h1, h2⟩ := hq; ⟨b, c, h1, st7_own h2 (own_ne h2 hbx0 (by decide)) _ _ _ _ _ _ _⟩
          · show (_ : Value) = _
            exact hq
          · obtain ⟨g', h1, h2, y0, y1, y2, y3, y4, y5, y6, h3⟩ := hq
            obtain rfl : g' = gn0 := by
              have := h1.symm.trans ((phU_ne (by decide)).trans h0)
              simpa using this
            exact ⟨g', h1, h2, _, _, _, _, _, _, _, st7_box h3 _ _ _ _ _ _ _⟩
          · exact absurd hj (by rw [hnk]; decide)
          · show (_ : Value) = _
            exact hq
          · trivial
      case s11 =>
        intro v f a X hat hS hv hnk hcl haf K hK
        have f0 := ph_haf haf 8 (by kernel_rfl)
        have ev0 := hat.done 8 91 f0 rfl
        have h0 := hv 8 f0
        rw [show v 8 = _ from h0] at ev0
        obtain ⟨tm, df⟩ := a
        go_simp
        exact hK.out _ _ (herQ_at rfl (show _ = _ from rfl)) (herQ_same hv hnk hcl _) hS
    case fin =>
      intro v X hX hv
      obtain ⟨g, bR, cR, hg, hBg, hbx, ho⟩ := hv 10 (by decide)
      have r0 := hv 11 (by decide)
      simp only [pjAll, Act.put, List.setIfInBounds_toArray, List.set_cons_zero, List.set_cons_succ]
      rw [show v 9 = _ from hg, show v 11 = _ from r0]
      simp only [phTail, List.drop_succ_cons, List.drop_zero]
      go_wp2_with fail
      go_meet
      exact ⟨g, bR, cR, rfl, rfl, Lib.hid ⟨HE.out.to hX, hbx, ho⟩⟩
  case rest =>
  obtain ⟨g16, b16, c16, rfl, rfl, hc⟩ := hcut
  have HE := Lib.hid hc.out.1
  have HB16 := Lib.hid hc.out.2.1
  have HO16 := Lib.hid hc.out.2.2
  clear hc
  have c0 := cell_of_row wc g16 0 _ _ _ HB16.out
  have c1 := cell_of_row wc g16 1 _ _ _ HB16.out
  have c2 := cell_of_row wc g16 2 _ _ _ HB16.out
  have c3 := cell_of_row wc g16 3 _ _ _ HB16.out
  have c4 := cell_of_row wc g16 4 _ _ _ HB16.out
  have c5 := cell_of_row wc g16 5 _ _ _ HB16.out
  have c6 := cell_of_row wc g16 6 _ _ _ HB16.out
  have d0 := cell_of_row wc g8 0 _ _ _ HE.out.b8
  have d1 := cell_of_row wc g8 1 _ _ _ HE.out.b8
  have d2 := cell_of_row wc g8 2 _ _ _ HE.out.b8
  have d3 := cell_of_row wc g8 3 _ _ _ HE.out.b8
  have d4 := cell_of_row wc g8 4 _ _ _ HE.out.b8
  have d5 := cell_of_row wc g8 5 _ _ _ HE.out.b8
  have d6 := cell_of_row wc g8 6 _ _ _ HE.out.b8
  go_wp2_with fail
  refine Calls.mono (HEQ'.out b16 b8 c16 c8 _ (lies_own HO16.out) (lies_own HE.out.o8)) ?_
  rintro e w9 ⟨rfl, hb⟩
  have HE := Lib.hid (HE.out.to hb)
  clear hb
  clear c0 c1 c2 c3 c4 c5 c6 d0 d1 d2 d3 d4 d5 d6
  have c0 := cell_of_row w9 g11 0 _ _ _ HE.out.b11
  have c1 := cell_of_row w9 g11 1 _ _ _ HE.out.b11
  have c2 := cell_of_row w9 g11 2 _ _ _ HE.out.b11
  have c3 := cell_of_row w9 g11 3 _ _ _ HE.out.b11
  have c4 := cell_of_row w9 g11 4 _ _ _ HE.out.b11
  have c5 := cell_of_row w9 g11 5 _ _ _ HE.out.b11
  have c6 := cell_of_row w9 g11 6 _ _ _ HE.out.b11
  go_wp2_with fail
  refine Calls.mono (HHD'.out _ _ _ (lies_own HE.out.o11)) ?_
  rintro e w10 ⟨rfl, hb⟩
  have HE := Lib.hid (HE.out.to hb)
  clear hb c0 c1 c2 c3 c4 c5 c6
  go_wp2
  go_ret
  exact ⟨rfl, HE.out.hx.bel⟩
theorem FnExactOfferEvent_came (cs ds : Array Value) (now : Int) (W : World) (h : Came Try.prog W 29 cs.toList) (g : Came Try.prog W 31 ds.toList) (_ : (Lit.int .i64 now).wf = true) : Calls Try.prog 5 #[.agg cs, .agg ds, .int .i64 now] W fun e w' => e = .returned (.bool true) ∧ Below W.heap.size W w' := by
  obtain ⟨x, b, c, e, hz, hm⟩ := came_src h
  obtain ⟨z, e'⟩ := came_tsk g
  rw [e, e']
  exact FnExactOfferEvent_walk x.l x.a x.d x.t x.s x.p x.q z.k z.p z.d z.i z.q z.r now b c hm W hz
set_option maxRecDepth 100000 in
set_option maxHeartbeats 1000000 in
theorem FnExactTakeEvent_walk (l a d t s p : Int) (q : List Int) (zk zp zd zi zq zr : Int) (b : Option Addr) (c : Nat) (hm : q.length ≤ maxLen) (w : World) (hz : Lies w b (kC q)) :
    Calls Try.prog 6 #[.agg #[.int .i64 l, .int .i64 a, .int .i64 d, .int .i64 t, .int .i64 s, .int .i64 p, .slice b q.length c], .agg #[.int .i64 zk, .int .i64 zp, .int .i64 zd, .int .i64 zi, .int .i64 zq, .int .i64 zr]] w fun e w' => e = .returned (.bool true) ∧ Below w.heap.size w w' := by
  have HX := Lib.hid (Bx2.start w (.cells #[.int .i64 l, .int .i64 a, .int .i64 d, .int .i64 t, .int .i64 s, .int .i64 p, .slice b q.length c] 29) (.cells #[.int .i64 zk, .int .i64 zp, .int .i64 zd, .int .i64 zi, .int .i64 zq, .int .i64 zr] 31))
  have HZ := Lib.hid hz
  have HSZ := Lib.hid (fun X => szSource_any ⟨l, a, d, t, s, p, q⟩ b c hm X)
  have HSZ : Hid (∀ X, Calls Try.prog 17 #[.agg #[.int .i64 l, .int .i64 a, .int .i64 d, .int .i64 t, .int .i64 s, .int .i64 p, .slice b q.length c], .int .i64 1048576] X fun e w' => Below X.heap.size X w' ∧ ∃ r : Int, e = .returned (.int .i64 r) ∧ (r = -1 ∨ (0 ≤ r ∧ q.length ≤ 1048576))) := HSZ
  have HS := Lib.hid (fun b c (hf : Fits b q.length c) w hz => specTakeEvent_any ⟨l, a, d, t, s, p, q⟩ ⟨zk, zp, zd, zi, zq, zr⟩ b c hm hf w hz)
  have HI := Lib.hid (fun b c w hz => implTakeEvent_any ⟨l, a, d, t, s, p, q⟩ ⟨zk, zp, zd, zi, zq, zr⟩ b c hm w hz)
  have HQN := Lib.hid (TakeEvent_len ⟨l, a, d, t, s, p, q⟩ ⟨zk, zp, zd, zi, zq, zr⟩)
  generalize takF ⟨l, a, d, t, s, p, q⟩ ⟨zk, zp, zd, zi, zq, zr⟩ = R at *
  obtain ⟨⟨l', a', d', t', s', p', q'⟩, k1, k2⟩ := R
  have hn' : q'.length ≤ 5 := HQN.out
  have HS : Hid (∀ b c, Fits b q.length c → ∀ w, Lies w b (kC q) → Calls Try.prog 24 #[.agg #[.int .i64 l, .int .i64 a, .int .i64 d, .int .i64 t, .int .i64 s, .int .i64 p, .slice b q.length c], .agg #[.int .i64 zk, .int .i64 zp, .int .i64 zd, .int .i64 zi, .int .i64 zq, .int .i64 zr]] w fun e w' => ∃ b c, e = .returned (.tuple (.agg #[.int .i64 l', .int .i64 a', .int .i64 d', .int .i64 t', .int .i64 s', .int .i64 p', .slice b q'.length c] :: [.int .i64 k1, .int .i64 k2]).toArray) ∧ w'.ownsRow w.heap.size 3 1 (.slice b q'.length c) q'.length (kC q') ∧ Below w.heap.size w w') := HS
  have HI : Hid (∀ b c w, Lies w b (kC q) → Calls Try.prog 25 #[.agg #[.int .i64 l, .int .i64 a, .int .i64 d, .int .i64 t, .int .i64 s, .int .i64 p, .slice b q.length c], .agg #[.int .i64 zk, .int .i64 zp, .int .i64 zd, .int .i64 zi, .int .i64 zq, .int .i64 zr]] w fun e w' => ∃ b c, e = .returned (.tuple (.agg #[.int .i64 l', .int .i64 a', .int .i64 d', .int .i64 t', .int .i64 s', .int .i64 p', .slice b q'.length c] :: [.int .i64 k1, .int .i64 k2]).toArray) ∧ w'.ownsRow w.heap.size 3 1 (.slice b q'.length c) q'.length (kC q') ∧ Below w.heap.size w w') := HI
  clear HQN
  clear hz
  go_enter Try.func6, Try.ntmps6
  go_upto_region 2 with (fail)
  generalize (w.alloc (.cells #[.int .i64 l, .int .i64 a, .int .i64 d, .int .i64 t, .int .i64 s, .int .i64 p, .slice b q.length c] 29)).alloc (.cells #[.int .i64 zk, .int .i64 zp, .int .i64 zd, .int .i64 zi, .int .i64 zq, .int .i64 zr] 31) = W0 at *
  have c0 := cell_of_row W0 w.heap.size 0 _ _ _ HX.out.box
  have c1 := cell_of_row W0 w.heap.size 1 _ _ _ HX.out.box
  have c2 := cell_of_row W0 w.heap.size 2 _ _ _ HX.out.box
  have c3 := cell_of_row W0 w.heap.size 3 _ _ _ HX.out.box
  have c4 := cell_of_row W0 w.heap.size 4 _ _ _ HX.out.box
  have c5 := cell_of_row W0 w.heap.size 5 _ _ _ HX.out.box
  have c6 := cell_of_row W0 w.heap.size 6 _ _ _ HX.out.box
  go_wp2_with fail
  refine Calls.mono (HSZ.out _) ?_
  rintro e w1 ⟨hb, r, rfl, hr⟩
  have HX := Lib.hid (HX.out.to hb)
  clear hb HSZ c0 c1 c2 c3 c4 c5 c6
  by_cases hr0 : r < 0
  · clear hr
    go_wp2
    go_ret
    exact ⟨rfl, HX.out.bel⟩
  have hn : q.length ≤ 1048576 := by omega
  have HTS := Lib.hid (fun b c w hz => toS_ph l a d t s p q b c hn w hz)
  have HTT := Lib.hid (fun w => toT_ph zk zp zd zi zq zr w)
  have HEQ := Lib.hid (fun b b' c c' w hz hy => eqS_ph l a d t s p q b b' c c' hn w hz hy)
  clear hr
  have HEQ' := Lib.hid (fun b b' c c' w hz hy => eqS_ph l' a' d' t' s' p' q' b b' c c' (by omega) w hz hy)
  have HMK := Lib.hid (fun B c b xs w ho => mkS_ph l a d t s p q B c b xs hn w ho)
  have HMK' := Lib.hid (fun B c b xs w ho => mkS_ph l' a' d' t' s' p' q' B c b xs (by omega) w ho)
  have HHD' := Lib.hid (fun c b w hz => hdS_ph l' a' d' t' s' p' q' c b (by omega) w hz)
  go_upto_region 5 with (fail)
  have hw1 : w.heap.size + 2 ≤ w1.heap.size := (Array.getElem?_eq_some_iff.1 HX.out.box2).1
  go_cut [6, 7, 8] (fun s6 s7 s8 wx => ∃ g8 b8 c8, s6 = .pointer (some ⟨g8, 0, none⟩) ∧ s7 = .int .i64 k1 ∧ s8 = .int .i64 k2 ∧ Hid (Bx2 w (.cells #[.int .i64 l, .int .i64 a, .int .i64 d, .int .i64 t, .int .i64 s, .int .i64 p, .slice b q.length c] 29) (.cells #[.int .i64 zk, .int .i64 zp, .int .i64 zd, .int .i64 zi, .int .i64 zq, .int .i64 zr] 31) wx ∧ wx.heap[g8]? = some (.cells #[.int .i64 l', .int .i64 a', .int .i64 d', .int .i64 t', .int .i64 s', .int .i64 p', .slice b8 q'.length c8] 24) ∧ wx.ownsRow w1.heap.size 3 1 (.slice b8 q'.length c8) q'.length (kC q') ∧ w1.heap.size ≤ g8))
  case first =>
    refine wp_region_phj 13 [some 25, some 26, some 27, some 28, some 29, some 24, some 30, some 31, some 32, some 6, none, some 7, some 8] (fun X => Below w1.heap.size w1 X) (herQ [atK 0 (isV (.agg #[.int .i64 l, .int .i64 a, .int .i64 d, .int .i64 t, .int .i64 s, .int .i64 p, .slice b q.length c])), atK 1 (isOwn w1.heap.size l a d t s p q), atK 2 (isV (.agg #[.int .i64 zk, .int .i64 zp, .int .i64 zd, .int .i64 zi, .int .i64 zq, .int .i64 zr])), atK 3 (isV (.agg #[.int .i64 zk, .int .i64 zp, .int .i64 zd, .int .i64 zi, .int .i64 zq, .int .i64 zr])), atK 4 (isRes w1.heap.size l' a' d' t' s' p' q' [.int .i64 k1, .int .i64 k2]), atK 5 (isRes w1.heap.size l' a' d' t' s' p' q' [.int .i64 k1, .int .i64 k2]), atK 6 (isOwn w1.heap.size l' a' d' t' s' p' q'), atK 7 (isV (.int .i64 k1)), atK 8 (isV (.int .i64 k2)), atK 9 (isNew w1.heap.size), storeQ w1.heap.size 10 9 l' a' d' t' s' p' q', atK 11 (isV (.int .i64 k1)), atK 12 (isV (.int .i64 k2))]) (herD [atK 0 (isV (.agg #[.int .i64 l, .int .i64 a, .int .i64 d, .int .i64 t, .int .i64 s, .int .i64 p, .slice b q.length c])), atK 1 (isOwn w1.heap.size l a d t s p q), atK 2 (isV (.agg #[.int .i64 zk, .int .i64 zp, .int .i64 zd, .int .i64 zi, .int .i64 zq, .int .i64 zr])), atK 3 (isV (.agg #[.int .i64 zk, .int .i64 zp, .int .i64 zd, .int .i64 zi, .int .i64 zq, .int .i64 zr])), atK 4 (isRes w1.heap.size l' a' d' t' s' p' q' [.int .i64 k1, .int .i64 k2]), atK 5 (isRes w1.heap.size l' a' d' t' s' p' q' [.int .i64 k1, .int .i64 k2]), atK 6 (isOwn w1.heap.size l' a' d' t' s' p' q'), atK 7 (isV (.int .i64 k1)), atK 8 (isV (.int .i64 k2)), atK 9 (isNew w1.heap.size), storeQ w1.heap.size 10 9 l' a' d' t' s' p' q', atK 11 (isV (.int .i64 k1)), atK 12 (isV (.int .i64 k2))]) (by kernel_rfl) (by kernel_rfl) (by kernel_rfl) (Below.refl _ _).drew ?steps ?fin
    case steps =>
      refine PjSteps.cons ?s0 (PjSteps.cons ?s1 (PjSteps.cons ?s2 (PjSteps.cons ?s3 (PjSteps.cons ?s4 (PjSteps.cons ?s5 (PjSteps.cons ?s6 (PjSteps.cons ?s7 (PjSteps.cons ?s8 (PjSteps.cons ?s9 (PjSteps.cons ?s10 (PjSteps.cons ?s11 (PjSteps.cons ?s12 (PjSteps.nil)))))))))))))
      case s0 =>
        intro v f a X hat hS hv hnk hcl haf K hK
        have ev := hat.old 2 (fun k hk => absurd (List.mem_of_getElem? hk) (by decide))
        obtain ⟨tm, df⟩ := a
        have c0 := cell_of_row X w.heap.size 0 _ _ _ (blk_bel HX.out.box hS)
        have c1 := cell_of_row X w.heap.size 1 _ _ _ (blk_bel HX.out.box hS)
        have c2 := cell_of_row X w.heap.size 2 _ _ _ (blk_bel HX.out.box hS)
        have c3 := cell_of_row X w.heap.size 3 _ _ _ (blk_bel HX.out.box hS)
        have c4 := cell_of_row X w.heap.size 4 _ _ _ (blk_bel HX.out.box hS)
        have c5 := cell_of_row X w.heap.size 5 _ _ _ (blk_bel HX.out.box hS)
        have c6 := cell_of_row X w.heap.size 6 _ _ _ (blk_bel HX.out.box hS)
        go_simp
        exact hK.out _ _ (herQ_at rfl (show _ = _ from rfl)) (herQ_same hv hnk hcl _) hS
      case s1 =>
        intro v f a X hat hS hv hnk hcl haf K hK
        have f0 := ph_haf haf 0 (by kernel_rfl)
        have ev0 := hat.done 0 25 f0 rfl
        have h0 := hv 0 f0
        rw [show v 0 = _ from h0] at ev0
        obtain ⟨tm, df⟩ := a
        go_simp
        refine Calls.mono (HTS.out b c _ (HZ.out.below (HX.out.bel.trans (hS.mono HX.out.bel.size)) (Nat.le_refl _))) ?_
        rintro e Y ⟨g, rfl, ho, hb⟩
        exact hK.out _ _ (herQ_at rfl (⟨_, _, rfl, own_base ho hS.size⟩)) (herQ_keep hv hnk hcl hb _) (hS.trans (hb.mono hS.size))
      case s2 =>
        intro v f a X hat hS hv hnk hcl haf K hK
        have ev := hat.old 3 (fun k hk => absurd (List.mem_of_getElem? hk) (by decide))
        obtain ⟨tm, df⟩ := a
        have c0 := cell_of_row X (w.heap.size + 1) 0 _ _ _ (blk_bel HX.out.box2 hS)
        have c1 := cell_of_row X (w.heap.size + 1) 1 _ _ _ (blk_bel HX.out.box2 hS)
        have c2 := cell_of_row X (w.heap.size + 1) 2 _ _ _ (blk_bel HX.out.box2 hS)
        have c3 := cell_of_row X (w.heap.size + 1) 3 _ _ _ (blk_bel HX.out.box2 hS)
        have c4 := cell_of_row X (w.heap.size + 1) 4 _ _ _ (blk_bel HX.out.box2 hS)
        have c5 := cell_of_row X (w.heap.size + 1) 5 _ _ _ (blk_bel HX.out.box2 hS)
        go_simp
        exact hK.out _ _ (herQ_at rfl (show _ = _ from rfl)) (herQ_same hv hnk hcl _) hS
      case s3 =>
        intro v f a X hat hS hv hnk hcl haf K hK
        have f0 := ph_haf haf 2 (by kernel_rfl)
        have ev0 := hat.done 2 27 f0 rfl
        have h0 := hv 2 f0
        rw [show v 2 = _ from h0] at ev0
        obtain ⟨tm, df⟩ := a
        go_simp
        refine Calls.mono (HTT.out _) ?_
        rintro e Y ⟨rfl, hb⟩
        exact hK.out _ _ (herQ_at rfl (show _ = _ from rfl)) (herQ_keep hv hnk hcl hb _) (hS.trans (hb.mono hS.size))
      case s4 =>
        intro v f a X hat hS hv hnk hcl haf K hK
        have f0 := ph_haf haf 1 (by kernel_rfl)
        have ev0 := hat.done 1 26 f0 rfl
        obtain ⟨b0, c0, h0, o0⟩ := hv 1 f0
        rw [h0] at ev0
        have f1 := ph_haf haf 3 (by kernel_rfl)
        have ev1 := hat.done 3 28 f1 rfl
        have h1 := hv 3 f1
        rw [show v 3 = _ from h1] at ev1
        obtain ⟨tm, df⟩ := a
        go_simp
        refine Calls.mono (HS.out b0 c0 (fits_own o0) _ (lies_own o0)) ?_
        rintro e Y ⟨b9, c9, rfl, ho, hb⟩
        exact hK.out _ _ (herQ_at rfl (⟨b9, c9, rfl, own_base ho hS.size⟩)) (herQ_keep hv hnk hcl hb _) (hS.trans (hb.mono hS.size))
      case s5 =>
        intro v f a X hat hS hv hnk hcl haf K hK
        have f0 := ph_haf haf 4 (by kernel_rfl)
        have ev0 := hat.done 4 29 f0 rfl
        obtain ⟨b0, c0, h0, o0⟩ := hv 4 f0
        rw [h0] at ev0
        obtain ⟨tm, df⟩ := a
        go_simp
        exact hK.out _ _ (herQ_at rfl (⟨b0, c0, rfl, o0⟩)) (herQ_same hv hnk hcl _) hS
      case s6 =>
        intro v f a X hat hS hv hnk hcl haf K hK
        have f0 := ph_haf haf 5 (by kernel_rfl)
        have ev0 := hat.done 5 24 f0 rfl
        obtain ⟨b0, c0, h0, o0⟩ := hv 5 f0
        rw [h0] at ev0
        obtain ⟨tm, df⟩ := a
        go_simp
        exact hK.out _ _ (herQ_at rfl (⟨b0, c0, rfl, o0⟩)) (herQ_same hv hnk hcl _) hS
      case s7 =>
        intro v f a X hat hS hv hnk hcl haf K hK
        have f0 := ph_haf haf 5 (by kernel_rfl)
        have ev0 := hat.done 5 24 f0 rfl
        obtain ⟨b0, c0, h0, o0⟩ := hv 5 f0
        rw [h0] at ev0
        obtain ⟨tm, df⟩ := a
        go_simp
        exact hK.out _ _ (herQ_at rfl (show _ = _ from rfl)) (herQ_same hv hnk hcl _) hS
      case s8 =>
        intro v f a X hat hS hv hnk hcl haf K hK
        have f0 := ph_haf haf 5 (by kernel_rfl)
        have ev0 := hat.done 5 24 f0 rfl
        obtain ⟨b0, c0, h0, o0⟩ := hv 5 f0
        rw [h0] at ev0
        obtain ⟨tm, df⟩ := a
        go_simp
        exact hK.out _ _ (herQ_at rfl (show _ = _ from rfl)) (herQ_same hv hnk hcl _) hS
      case s9 =>
        intro v f a X hat hS hv hnk hcl haf K hK
        obtain ⟨tm, df⟩ := a
        go_simp
        exact hK.out _ _ (herQ_at rfl ⟨X.heap.size, rfl, hS.size, _, _, _, _, _, _, _, heap_alloc_new X _⟩) (herQ_keep hv hnk hcl (dbox X _) _) (hS.trans ((dbox X _).mono hS.size))
      case s10 =>
        intro v f a X hat hS hv hnk hcl haf K hK
        have f0 := ph_haf haf 9 (by kernel_rfl)
        have ev0 := hat.done 9 6 f0 rfl
        obtain ⟨gn0, h0, hB0, x0, x1, x2, x3, x4, x5, x6, hbx0⟩ := hv 9 f0
        rw [h0] at ev0
        have f1 := ph_haf haf 6 (by kernel_rfl)
        have ev1 := hat.done 6 30 f1 rfl
        obtain ⟨b1, c1, h1, o1⟩ := hv 6 f1
        rw [h1] at ev1
        obtain ⟨tm, df⟩ := a
        have e0 := cell_of_row X gn0 0 _ _ _ hbx0
        have z0 := frozen_of_row X gn0 0 _ _ hbx0
        have e1 := cell_of_row X gn0 1 _ _ _ hbx0
        have z1 := frozen_of_row X gn0 1 _ _ hbx0
        have e2 := cell_of_row X gn0 2 _ _ _ hbx0
        have z2 := frozen_of_row X gn0 2 _ _ hbx0
        have e3 := cell_of_row X gn0 3 _ _ _ hbx0
        have z3 := frozen_of_row X gn0 3 _ _ hbx0
        have e4 := cell_of_row X gn0 4 _ _ _ hbx0
        have z4 := frozen_of_row X gn0 4 _ _ hbx0
        have e5 := cell_of_row X gn0 5 _ _ _ hbx0
        have z5 := frozen_of_row X gn0 5 _ _ hbx0
        have e6 := cell_of_row X gn0 6 _ _ _ hbx0
        have z6 := frozen_of_row X gn0 6 _ _ hbx0
        go_simp
        refine hK.out undef _ ?h1 ?h2 (ev_bel7 hS (by omega) _ _ _ _ _ _ _)
        case h1 => exact ⟨gn0, b1, c1, (phU_ne (by decide)).trans h0, hB0, st7_box hbx0 _ _ _ _ _ _ _, st7_own o1 (own_ne o1 hbx0 (by decide)) _ _ _ _ _ _ _⟩
        case h2 =>
          intro j hj
          have hq := herQ_same hv hnk hcl undef j hj
          rcases j with _ | _ | _ | _ | _ | _ | _ | _ | _ | _ | _ | _ | _ | _
          · show (_ : Value) = _
            exact hq
          · exact let ⟨b, c, h1, h2⟩ := hq; ⟨b, c, h1, st7_own h2 (own_ne h2 hbx0 (by decide)) _ _ _ _ _ _ _⟩
          · show (_ : Value) = _
            exact hq
          · show (_ : Value) = _
            exact hq
          · exact let ⟨b, c, h1, h2⟩ := hq; ⟨b, c, h1, st7_own h2 (own_ne h2 hbx0 (by decide)) _ _ _ _ _ _ _⟩
          · exact let ⟨b, c, h1, h2⟩ := hq; ⟨b, c, h1, st7_own h2 (own_ne h2 hbx0 (by decide)) _ _ _ _ _ _ _⟩
          · exact let ⟨b, c, h1, h2⟩ := hq; ⟨b, c, h1, st7_own h2 (own_ne h2 hbx0 (by decide)) _ _ _ _ _ _ _⟩
          · show (_ : Value) = _
            exact hq
          · show (_ : Value) = _
            exact hq
          · obtain ⟨g', h1, h2, y0, y1, y2, y3, y4, y5, y6, h3⟩ := hq
            obtain rfl : g' = gn0 := by
              have := h1.symm.trans ((phU_ne (by decide)).trans h0)
              simpa using this
            exact ⟨g', h1, h2, _, _, _, _, _, _, _, st7_box h3 _ _ _ _ _ _ _⟩
          · exact absurd hj (by rw [hnk]; decide)
          · show (_ : Value) = _
            exact hq
          · show (_ : Value) = _
            exact hq
          · trivial
      case s11 =>
        intro v f a X hat hS hv hnk hcl haf K hK
        have f0 := ph_haf haf 7 (by kernel_rfl)
        have ev0 := hat.done 7 31 f0 rfl
        have h0 := hv 7 f0
        rw [show v 7 = _ from h0] at ev0
        obtain ⟨tm, df⟩ := a
        go_simp
        exact hK.out _ _ (herQ_at rfl (show _ = _ from rfl)) (herQ_same hv hnk hcl _) hS
      case s12 =>
        intro v f a X hat hS hv hnk hcl haf K hK
        have f0 := ph_haf haf 8 (by kernel_rfl)
        have ev0 := hat.done 8 32 f0 rfl
        have h0 := hv 8 f0
        rw [show v 8 = _ from h0] at ev0
        obtain ⟨tm, df⟩ := a
        go_simp
        exact hK.out _ _ (herQ_at rfl (show _ = _ from rfl)) (herQ_same hv hnk hcl _) hS
    case fin =>
      intro v X hX hv
      obtain ⟨g, bR, cR, hg, hBg, hbx, ho⟩ := hv 10 (by decide)
      have r0 := hv 11 (by decide)
      have r1 := hv 12 (by decide)
      simp only [pjAll, Act.put, List.setIfInBounds_toArray, List.set_cons_zero, List.set_cons_succ]
      rw [show v 9 = _ from hg, show v 11 = _ from r0, show v 12 = _ from r1]
      simp only [phTail, List.drop_succ_cons, List.drop_zero]
      go_wp2_with fail
      go_meet
      exact ⟨g, bR, cR, rfl, rfl, rfl, Lib.hid ⟨HX.out.to hX, hbx, ho, hBg⟩⟩
  case rest =>
  obtain ⟨g8, b8, c8, rfl, rfl, rfl, hc⟩ := hcut
  have HX := Lib.hid hc.out.1
  have HB8 := Lib.hid hc.out.2.1
  have HO8 := Lib.hid hc.out.2.2.1
  have hg8 := hc.out.2.2.2
  have hg8w : g8 < wc.heap.size := (Array.getElem?_eq_some_iff.1 HB8.out).1
  have HOC := HO8
  clear hc
  have c0 := cell_of_row wc w.heap.size 0 _ _ _ HX.out.box
  have c1 := cell_of_row wc w.heap.size 1 _ _ _ HX.out.box
  have c2 := cell_of_row wc w.heap.size 2 _ _ _ HX.out.box
  have c3 := cell_of_row wc w.heap.size 3 _ _ _ HX.out.box
  have c4 := cell_of_row wc w.heap.size 4 _ _ _ HX.out.box
  have c5 := cell_of_row wc w.heap.size 5 _ _ _ HX.out.box
  have c6 := cell_of_row wc w.heap.size 6 _ _ _ HX.out.box
  go_wp2_with fail
  refine Calls.mono (HTS.out b c _ (HZ.out.below HX.out.bel (Nat.le_refl _))) ?_
  rintro e w2 ⟨g1, rfl, ho, hb⟩
  have HX := Lib.hid (HX.out.to hb)
  have HO1 := Lib.hid ho
  have HB8 := Lib.hid (blk_bel HB8.out hb)
  have HO8 := Lib.hid (own_bl HO8.out hb)
  have D81 := Lib.hid (ob_ne HOC.out ho (Nat.le_refl _))
  have hwc := hb.size
  clear hb ho c0 c1 c2 c3 c4 c5 c6
  go_upto_region 7 with (fail)
  have HB1 := Lib.hid (heap_alloc_new w2 (.cells #[.int .i64 l, .int .i64 a, .int .i64 d, .int .i64 t, .int .i64 s, .int .i64 p, .slice (some ⟨g1, 0, none⟩) q.length q.length] 24))
  have HX := Lib.hid (HX.out.to (dbox w2 (.cells #[.int .i64 l, .int .i64 a, .int .i64 d, .int .i64 t, .int .i64 s, .int .i64 p, .slice (some ⟨g1, 0, none⟩) q.length q.length] 24)))
  have HB8 := Lib.hid (blk_bel HB8.out (dbox w2 (.cells #[.int .i64 l, .int .i64 a, .int .i64 d, .int .i64 t, .int .i64 s, .int .i64 p, .slice (some ⟨g1, 0, none⟩) q.length q.length] 24)))
  have HO8' := HO8
  have HO1' := HO1
  have HO8 := Lib.hid (own_bl HO8.out (dbox w2 (.cells #[.int .i64 l, .int .i64 a, .int .i64 d, .int .i64 t, .int .i64 s, .int .i64 p, .slice (some ⟨g1, 0, none⟩) q.length q.length] 24)))
  have HO1 := Lib.hid (own_bl HO1.out (dbox w2 (.cells #[.int .i64 l, .int .i64 a, .int .i64 d, .int .i64 t, .int .i64 s, .int .i64 p, .slice (some ⟨g1, 0, none⟩) q.length q.length] 24)))
  have hw3 : w2.heap.size + 1 ≤ (w2.alloc (.cells #[.int .i64 l, .int .i64 a, .int .i64 d, .int .i64 t, .int .i64 s, .int .i64 p, .slice (some ⟨g1, 0, none⟩) q.length q.length] 24)).heap.size := by simp
  generalize w2.alloc (.cells #[.int .i64 l, .int .i64 a, .int .i64 d, .int .i64 t, .int .i64 s, .int .i64 p, .slice (some ⟨g1, 0, none⟩) q.length q.length] 24) = W3 at *
  go_cut [10, 11, 12] (fun s10 s11 s12 wx => ∃ g11 b11 c11, s10 = .pointer (some ⟨g11, 0, none⟩) ∧ s11 = .int .i64 k1 ∧ s12 = .int .i64 k2 ∧ Hid (EvW w (.cells #[.int .i64 l, .int .i64 a, .int .i64 d, .int .i64 t, .int .i64 s, .int .i64 p, .slice b q.length c] 29) (.cells #[.int .i64 zk, .int .i64 zp, .int .i64 zd, .int .i64 zi, .int .i64 zq, .int .i64 zr] 31) g8 w2.heap.size g11 #[.int .i64 l', .int .i64 a', .int .i64 d', .int .i64 t', .int .i64 s', .int .i64 p', .slice b8 q'.length c8] #[.int .i64 l, .int .i64 a, .int .i64 d, .int .i64 t, .int .i64 s, .int .i64 p, .slice (some ⟨g1, 0, none⟩) q.length q.length] #[.int .i64 l', .int .i64 a', .int .i64 d', .int .i64 t', .int .i64 s', .int .i64 p', .slice b11 q'.length c11] (.slice b8 q'.length c8) (.slice (some ⟨g1, 0, none⟩) q.length q.length) (.slice b11 q'.length c11) q'.length q.length q'.length (kC q') (kC q) (kC q') wx ∧ wx.ownsRow W3.heap.size 3 1 (.slice b11 q'.length c11) q'.length (kC q') ∧ W3.heap.size ≤ g11))
  case first =>
    refine wp_region_phj 12 [some 36, some 37, some 38, some 39, some 35, some 40, some 41, some 42, some 10, none, some 11, some 12] (fun X => Below W3.heap.size W3 X) (herQ [atK 0 (isV (.agg #[.int .i64 l, .int .i64 a, .int .i64 d, .int .i64 t, .int .i64 s, .int .i64 p, .slice (some ⟨g1, 0, none⟩) q.length q.length])), atK 1 (isV (.agg #[.int .i64 zk, .int .i64 zp, .int .i64 zd, .int .i64 zi, .int .i64 zq, .int .i64 zr])), atK 2 (isV (.agg #[.int .i64 zk, .int .i64 zp, .int .i64 zd, .int .i64 zi, .int .i64 zq, .int .i64 zr])), atK 3 (isRes W3.heap.size l' a' d' t' s' p' q' [.int .i64 k1, .int .i64 k2]), atK 4 (isRes W3.heap.size l' a' d' t' s' p' q' [.int .i64 k1, .int .i64 k2]), atK 5 (isOwn W3.heap.size l' a' d' t' s' p' q'), atK 6 (isV (.int .i64 k1)), atK 7 (isV (.int .i64 k2)), atK 8 (isNew W3.heap.size), storeQ W3.heap.size 9 8 l' a' d' t' s' p' q', atK 10 (isV (.int .i64 k1)), atK 11 (isV (.int .i64 k2))]) (herD [atK 0 (isV (.agg #[.int .i64 l, .int .i64 a, .int .i64 d, .int .i64 t, .int .i64 s, .int .i64 p, .slice (some ⟨g1, 0, none⟩) q.length q.length])), atK 1 (isV (.agg #[.int .i64 zk, .int .i64 zp, .int .i64 zd, .int .i64 zi, .int .i64 zq, .int .i64 zr])), atK 2 (isV (.agg #[.int .i64 zk, .int .i64 zp, .int .i64 zd, .int .i64 zi, .int .i64 zq, .int .i64 zr])), atK 3 (isRes W3.heap.size l' a' d' t' s' p' q' [.int .i64 k1, .int .i64 k2]), atK 4 (isRes W3.heap.size l' a' d' t' s' p' q' [.int .i64 k1, .int .i64 k2]), atK 5 (isOwn W3.heap.size l' a' d' t' s' p' q'), atK 6 (isV (.int .i64 k1)), atK 7 (isV (.int .i64 k2)), atK 8 (isNew W3.heap.size), storeQ W3.heap.size 9 8 l' a' d' t' s' p' q', atK 10 (isV (.int .i64 k1)), atK 11 (isV (.int .i64 k2))]) (by kernel_rfl) (by kernel_rfl) (by kernel_rfl) (Below.refl _ _).drew ?steps ?fin
    case steps =>
      refine PjSteps.cons ?s0 (PjSteps.cons ?s1 (PjSteps.cons ?s2 (PjSteps.cons ?s3 (PjSteps.cons ?s4 (PjSteps.cons ?s5 (PjSteps.cons ?s6 (PjSteps.cons ?s7 (PjSteps.cons ?s8 (PjSteps.cons ?s9 (PjSteps.cons ?s10 (PjSteps.cons ?s11 (PjSteps.nil))))))))))))
      case s0 =>
        intro v f a X hat hS hv hnk hcl haf K hK
        have ev := hat.old 9 (fun k hk => absurd (List.mem_of_getElem? hk) (by decide))
        obtain ⟨tm, df⟩ := a
        have c0 := cell_of_row X w2.heap.size 0 _ _ _ (blk_bel HB1.out hS)
        have c1 := cell_of_row X w2.heap.size 1 _ _ _ (blk_bel HB1.out hS)
        have c2 := cell_of_row X w2.heap.size 2 _ _ _ (blk_bel HB1.out hS)
        have c3 := cell_of_row X w2.heap.size 3 _ _ _ (blk_bel HB1.out hS)
        have c4 := cell_of_row X w2.heap.size 4 _ _ _ (blk_bel HB1.out hS)
        have c5 := cell_of_row X w2.heap.size 5 _ _ _ (blk_bel HB1.out hS)
        have c6 := cell_of_row X w2.heap.size 6 _ _ _ (blk_bel HB1.out hS)
        go_simp
        exact hK.out _ _ (herQ_at rfl (show _ = _ from rfl)) (herQ_same hv hnk hcl _) hS
      case s1 =>
        intro v f a X hat hS hv hnk hcl haf K hK
        have ev := hat.old 3 (fun k hk => absurd (List.mem_of_getElem? hk) (by decide))
        obtain ⟨tm, df⟩ := a
        have c0 := cell_of_row X (w.heap.size + 1) 0 _ _ _ (blk_bel HX.out.box2 hS)
        have c1 := cell_of_row X (w.heap.size + 1) 1 _ _ _ (blk_bel HX.out.box2 hS)
        have c2 := cell_of_row X (w.heap.size + 1) 2 _ _ _ (blk_bel HX.out.box2 hS)
        have c3 := cell_of_row X (w.heap.size + 1) 3 _ _ _ (blk_bel HX.out.box2 hS)
        have c4 := cell_of_row X (w.heap.size + 1) 4 _ _ _ (blk_bel HX.out.box2 hS)
        have c5 := cell_of_row X (w.heap.size + 1) 5 _ _ _ (blk_bel HX.out.box2 hS)
        go_simp
        exact hK.out _ _ (herQ_at rfl (show _ = _ from rfl)) (herQ_same hv hnk hcl _) hS
      case s2 =>
        intro v f a X hat hS hv hnk hcl haf K hK
        have f0 := ph_haf haf 1 (by kernel_rfl)
        have ev0 := hat.done 1 37 f0 rfl
        have h0 := hv 1 f0
        rw [show v 1 = _ from h0] at ev0
        obtain ⟨tm, df⟩ := a
        go_simp
        refine Calls.mono (HTT.out _) ?_
        rintro e Y ⟨rfl, hb⟩
        exact hK.out _ _ (herQ_at rfl (show _ = _ from rfl)) (herQ_keep hv hnk hcl hb _) (hS.trans (hb.mono hS.size))
      case s3 =>
        intro v f a X hat hS hv hnk hcl haf K hK
        have f0 := ph_haf haf 0 (by kernel_rfl)
        have ev0 := hat.done 0 36 f0 rfl
        have h0 := hv 0 f0
        rw [show v 0 = _ from h0] at ev0
        have f1 := ph_haf haf 2 (by kernel_rfl)
        have ev1 := hat.done 2 38 f1 rfl
        have h1 := hv 2 f1
        rw [show v 2 = _ from h1] at ev1
        obtain ⟨tm, df⟩ := a
        go_simp
        refine Calls.mono (HI.out (some ⟨g1, 0, none⟩) q.length _ ((lies_own HO1.out).below hS (Nat.le_refl _))) ?_
        rintro e Y ⟨b9, c9, rfl, ho, hb⟩
        exact hK.out _ _ (herQ_at rfl (⟨b9, c9, rfl, own_base ho hS.size⟩)) (herQ_keep hv hnk hcl hb _) (hS.trans (hb.mono hS.size))
      case s4 =>
        intro v f a X hat hS hv hnk hcl haf K hK
        have f0 := ph_haf haf 3 (by kernel_rfl)
        have ev0 := hat.done 3 39 f0 rfl
        obtain ⟨b0, c0, h0, o0⟩ := hv 3 f0
        rw [h0] at ev0
        obtain ⟨tm, df⟩ := a
        go_simp
        exact hK.out _ _ (herQ_at rfl (⟨b0, c0, rfl, o0⟩)) (herQ_same hv hnk hcl _) hS
      case s5 =>
        intro v f a X hat hS hv hnk hcl haf K hK
        have f0 := ph_haf haf 4 (by kernel_rfl)
        have ev0 := hat.done 4 35 f0 rfl
        obtain ⟨b0, c0, h0, o0⟩ := hv 4 f0
        rw [h0] at ev0
        obtain ⟨tm, df⟩ := a
        go_simp
        exact hK.out _ _ (herQ_at rfl (⟨b0, c0, rfl, o0⟩)) (herQ_same hv hnk hcl _) hS
      case s6 =>
        intro v f a X hat hS hv hnk hcl haf K hK
        have f0 := ph_haf haf 4 (by kernel_rfl)
        have ev0 := hat.done 4 35 f0 rfl
        obtain ⟨b0, c0, h0, o0⟩ := hv 4 f0
        rw [h0] at ev0
        obtain ⟨tm, df⟩ := a
        go_simp
        exact hK.out _ _ (herQ_at rfl (show _ = _ from rfl)) (herQ_same hv hnk hcl _) hS
      case s7 =>
        intro v f a X hat hS hv hnk hcl haf K hK
        have f0 := ph_haf haf 4 (by kernel_rfl)
        have ev0 := hat.done 4 35 f0 rfl
        obtain ⟨b0, c0, h0, o0⟩ := hv 4 f0
        rw [h0] at ev0
        obtain ⟨tm, df⟩ := a
        go_simp
        exact hK.out _ _ (herQ_at rfl (show _ = _ from rfl)) (herQ_same hv hnk hcl _) hS
      case s8 =>
        intro v f a X hat hS hv hnk hcl haf K hK
        obtain ⟨tm, df⟩ := a
        go_simp
        exact hK.out _ _ (herQ_at rfl ⟨X.heap.size, rfl, hS.size, _, _, _, _, _, _, _, heap_alloc_new X _⟩) (herQ_keep hv hnk hcl (dbox X _) _) (hS.trans ((dbox X _).mono hS.size))
      case s9 =>
        intro v f a X hat hS hv hnk hcl haf K hK
        have f0 := ph_haf haf 8 (by kernel_rfl)
        have ev0 := hat.done 8 10 f0 rfl
        obtain ⟨gn0, h0, hB0, x0, x1, x2, x3, x4, x5, x6, hbx0⟩ := hv 8 f0
        rw [h0] at ev0
        have f1 := ph_haf haf 5 (by kernel_rfl)
        have ev1 := hat.done 5 40 f1 rfl
        obtain ⟨b1, c1, h1, o1⟩ := hv 5 f1
        rw [h1] at ev1
        obtain ⟨tm, df⟩ := a
        have e0 := cell_of_row X gn0 0 _ _ _ hbx0
        have z0 := frozen_of_row X gn0 0 _ _ hbx0
        have e1 := cell_of_row X gn0 1 _ _ _ hbx0
        have z1 := frozen_of_row X gn0 1 _ _ hbx0
        have e2 := cell_of_row X gn0 2 _ _ _ hbx0
        have z2 := frozen_of_row X gn0 2 _ _ hbx0
        have e3 := cell_of_row X gn0 3 _ _ _ hbx0
        have z3 := frozen_of_row X gn0 3 _ _ hbx0
        have e4 := cell_of_row X gn0 4 _ _ _ hbx0
        have z4 := frozen_of_row X gn0 4 _ _ hbx0
        have e5 := cell_of_row X gn0 5 _ _ _ hbx0
        have z5 := frozen_of_row X gn0 5 _ _ hbx0
        have e6 := cell_of_row X gn0 6 _ _ _ hbx0
        have z6 := frozen_of_row X gn0 6 _ _ hbx0
        go_simp
        refine hK.out undef _ ?h1 ?h2 (ev_bel7 hS (by omega) _ _ _ _ _ _ _)
        case h1 => exact ⟨gn0, b1, c1, (phU_ne (by decide)).trans h0, hB0, st7_box hbx0 _ _ _ _ _ _ _, st7_own o1 (own_ne o1 hbx0 (by decide)) _ _ _ _ _ _ _⟩
        case h2 =>
          intro j hj
          have hq := herQ_same hv hnk hcl undef j hj
          rcases j with _ | _ | _ | _ | _ | _ | _ | _ | _ | _ | _ | _ | _
          · show (_ : Value) = _
            exact hq
          · show (_ : Value) = _
            exact hq
          · show (_ : Value) = _
            exact hq
          · exact let ⟨b, c, h1, h2⟩ := hq; ⟨b, c, h1, st7_own h2 (own_ne h2 hbx0 (by decide)) _ _ _ _ _ _ _⟩
          · exact let ⟨b, c, h1, h2⟩ := hq; ⟨b, c, h1, st7_own h2 (own_ne h2 hbx0 (by decide)) _ _ _ _ _ _ _⟩
          · exact let ⟨b, c, h1, h2⟩ := hq; ⟨b, c, h1, st7_own h2 (own_ne h2 hbx0 (by decide)) _ _ _ _ _ _ _⟩
          · show (_ : Value) = _
            exact hq
          · show (_ : Value) = _
            exact hq
          · obtain ⟨g', h1, h2, y0, y1, y2, y3, y4, y5, y6, h3⟩ := hq
            obtain rfl : g' = gn0 := by
              have := h1.symm.trans ((phU_ne (by decide)).trans h0)
              simpa using this
            exact ⟨g', h1, h2, _, _, _, _, _, _, _, st7_box h3 _ _ _ _ _ _ _⟩
          · exact absurd hj (by rw [hnk]; decide)
          · show (_ : Value) = _
            exact hq
          · show (_ : Value) = _
            exact hq
          · trivial
      case s10 =>
        intro v f a X hat hS hv hnk hcl haf K hK
        have f0 := ph_haf haf 6 (by kernel_rfl)
        have ev0 := hat.done 6 41 f0 rfl
        have h0 := hv 6 f0
        rw [show v 6 = _ from h0] at ev0
        obtain ⟨tm, df⟩ := a
        go_simp
        exact hK.out _ _ (herQ_at rfl (show _ = _ from rfl)) (herQ_same hv hnk hcl _) hS
      case s11 =>
        intro v f a X hat hS hv hnk hcl haf K hK
        have f0 := ph_haf haf 7 (by kernel_rfl)
        have ev0 := hat.done 7 42 f0 rfl
        have h0 := hv 7 f0
        rw [show v 7 = _ from h0] at ev0
        obtain ⟨tm, df⟩ := a
        go_simp
        exact hK.out _ _ (herQ_at rfl (show _ = _ from rfl)) (herQ_same hv hnk hcl _) hS
    case fin =>
      intro v X hX hv
      obtain ⟨g, bR, cR, hg, hBg, hbx, ho⟩ := hv 9 (by decide)
      have r0 := hv 10 (by decide)
      have r1 := hv 11 (by decide)
      simp only [pjAll, Act.put, List.setIfInBounds_toArray, List.set_cons_zero, List.set_cons_succ]
      rw [show v 8 = _ from hg, show v 10 = _ from r0, show v 11 = _ from r1]
      simp only [phTail, List.drop_succ_cons, List.drop_zero]
      go_wp2_with fail
      go_meet
      exact ⟨g, bR, cR, rfl, rfl, rfl, Lib.hid ⟨⟨HX.out.to hX, blk_bel HB8.out hX, blk_bel HB1.out hX, hbx, own_base (own_bl HO8.out hX) (by omega), own_base (own_bl HO1.out hX) (by omega), own_base ho (by omega)⟩, ho, hBg⟩⟩
  case rest =>
  obtain ⟨g11, b11, c11, rfl, rfl, rfl, hc⟩ := hcut
  have HE := Lib.hid hc.out.1
  have D8 := Lib.hid (ob_ne HO8.out hc.out.2.1 (Nat.le_refl _))
  have D1 := Lib.hid (ob_ne HO1.out hc.out.2.1 (Nat.le_refl _))
  have D1' := Lib.hid (ob_ne' HO1.out hc.out.2.1 (Nat.le_refl _))
  have hg11 := hc.out.2.2
  clear hc HX HB8 HO8 HB1 HO1 HOC HO8' HO1'
  have nk1 : (k1 != k1) = false := by simp
  have nk2 : (k2 != k2) = false := by simp
  have c0 := cell_of_row wc g11 0 _ _ _ HE.out.b11
  have c1 := cell_of_row wc g11 1 _ _ _ HE.out.b11
  have c2 := cell_of_row wc g11 2 _ _ _ HE.out.b11
  have c3 := cell_of_row wc g11 3 _ _ _ HE.out.b11
  have c4 := cell_of_row wc g11 4 _ _ _ HE.out.b11
  have c5 := cell_of_row wc g11 5 _ _ _ HE.out.b11
  have c6 := cell_of_row wc g11 6 _ _ _ HE.out.b11
  have d0 := cell_of_row wc g8 0 _ _ _ HE.out.b8
  have d1 := cell_of_row wc g8 1 _ _ _ HE.out.b8
  have d2 := cell_of_row wc g8 2 _ _ _ HE.out.b8
  have d3 := cell_of_row wc g8 3 _ _ _ HE.out.b8
  have d4 := cell_of_row wc g8 4 _ _ _ HE.out.b8
  have d5 := cell_of_row wc g8 5 _ _ _ HE.out.b8
  have d6 := cell_of_row wc g8 6 _ _ _ HE.out.b8
  go_wp2_with fail
  refine Calls.mono (HEQ'.out b11 b8 c11 c8 _ (lies_own HE.out.o11) (lies_own HE.out.o8)) ?_
  rintro e w4 ⟨rfl, hb⟩
  have HE := Lib.hid (HE.out.to hb)
  clear hb
  clear c0 c1 c2 c3 c4 c5 c6 d0 d1 d2 d3 d4 d5 d6
  go_upto_region 10 with (fail)
  go_cut [61] (fun s61 wx => s61 = .bool false ∧ Hid (EvW w (.cells #[.int .i64 l, .int .i64 a, .int .i64 d, .int .i64 t, .int .i64 s, .int .i64 p, .slice b q.length c] 29) (.cells #[.int .i64 zk, .int .i64 zp, .int .i64 zd, .int .i64 zi, .int .i64 zq, .int .i64 zr] 31) g8 w2.heap.size g11 #[.int .i64 l', .int .i64 a', .int .i64 d', .int .i64 t', .int .i64 s', .int .i64 p', .slice b8 q'.length c8] #[.int .i64 l, .int .i64 a, .int .i64 d, .int .i64 t, .int .i64 s, .int .i64 p, .slice (some ⟨g1, 0, none⟩) q.length q.length] #[.int .i64 l', .int .i64 a', .int .i64 d', .int .i64 t', .int .i64 s', .int .i64 p', .slice b11 q'.length c11] (.slice b8 q'.length c8) (.slice (some ⟨g1, 0, none⟩) q.length q.length) (.slice b11 q'.length c11) q'.length q.length q'.length (kC q') (kC q) (kC q') wx))
  case first =>
    refine wp_region_phi 4 [57, 58, 59, 60] (fun X => Below w4.heap.size w4 X) (herL [isV (.agg #[.int .i64 l, .int .i64 a, .int .i64 d, .int .i64 t, .int .i64 s, .int .i64 p, .slice (some ⟨g1, 0, none⟩) q.length q.length]), isV (.agg #[.int .i64 l, .int .i64 a, .int .i64 d, .int .i64 t, .int .i64 s, .int .i64 p, .slice b q.length c]), isSrc l a d t s p q, isV (.bool true)]) (by kernel_rfl) (by kernel_rfl) (by kernel_rfl) (herL_keep _) (fun X Y h hb => h.trans (hb.mono h.size)) ((Below.refl _ _).drew) ?steps ?fin
    case steps =>
      refine PhSteps.cons ?s0 (PhSteps.cons ?s1 (PhSteps.cons ?s2 (PhSteps.cons ?s3 (PhSteps.nil))))
      case s0 =>
        intro v f a X hat hS hv haf K hK
        have ev := hat.old 9 (fun k hk => absurd (List.mem_of_getElem? hk) (by decide))
        obtain ⟨tm, df⟩ := a
        have c0 := cell_of_row X w2.heap.size 0 _ _ _ (blk_bel HE.out.b1 hS)
        have c1 := cell_of_row X w2.heap.size 1 _ _ _ (blk_bel HE.out.b1 hS)
        have c2 := cell_of_row X w2.heap.size 2 _ _ _ (blk_bel HE.out.b1 hS)
        have c3 := cell_of_row X w2.heap.size 3 _ _ _ (blk_bel HE.out.b1 hS)
        have c4 := cell_of_row X w2.heap.size 4 _ _ _ (blk_bel HE.out.b1 hS)
        have c5 := cell_of_row X w2.heap.size 5 _ _ _ (blk_bel HE.out.b1 hS)
        have c6 := cell_of_row X w2.heap.size 6 _ _ _ (blk_bel HE.out.b1 hS)
        go_simp
        exact hK.out _ _ (show _ = _ from rfl) (Below.refl _ _)
      case s1 =>
        intro v f a X hat hS hv haf K hK
        have ev := hat.old 2 (fun k hk => absurd (List.mem_of_getElem? hk) (by decide))
        obtain ⟨tm, df⟩ := a
        have c0 := cell_of_row X w.heap.size 0 _ _ _ (blk_bel HE.out.hx.box hS)
        have c1 := cell_of_row X w.heap.size 1 _ _ _ (blk_bel HE.out.hx.box hS)
        have c2 := cell_of_row X w.heap.size 2 _ _ _ (blk_bel HE.out.hx.box hS)
        have c3 := cell_of_row X w.heap.size 3 _ _ _ (blk_bel HE.out.hx.box hS)
        have c4 := cell_of_row X w.heap.size 4 _ _ _ (blk_bel HE.out.hx.box hS)
        have c5 := cell_of_row X w.heap.size 5 _ _ _ (blk_bel HE.out.hx.box hS)
        have c6 := cell_of_row X w.heap.size 6 _ _ _ (blk_bel HE.out.hx.box hS)
        go_simp
        exact hK.out _ _ (show _ = _ from rfl) (Below.refl _ _)
      case s2 =>
        intro v f a X hat hS hv haf K hK
        have f0 := ph_haf haf 1 (by kernel_rfl)
        have ev0 := hat.done 1 58 f0 rfl
        have h0 := hv 1 f0
        rw [show v 1 = _ from h0] at ev0
        obtain ⟨tm, df⟩ := a
        go_simp
        refine Calls.mono (HTS.out b c _ (HZ.out.below (HE.out.hx.bel.trans (hS.mono HE.out.hx.bel.size)) (Nat.le_refl _))) ?_
        rintro e Y ⟨g, rfl, ho, hb⟩
        exact hK.out _ _ (⟨_, _, rfl, lies_own ho, Nat.le_refl _, by intro h; cases h⟩) hb
      case s3 =>
        intro v f a X hat hS hv haf K hK
        have f0 := ph_haf haf 0 (by kernel_rfl)
        have ev0 := hat.done 0 57 f0 rfl
        have h0 := hv 0 f0
        rw [show v 0 = _ from h0] at ev0
        have f1 := ph_haf haf 2 (by kernel_rfl)
        have ev1 := hat.done 2 59 f1 rfl
        obtain ⟨b1, c1, h1, l1, ft1⟩ := hv 2 f1
        rw [h1] at ev1
        obtain ⟨tm, df⟩ := a
        go_simp
        refine Calls.mono (HEQ.out (some ⟨g1, 0, none⟩) b1 q.length c1 _ ((lies_own HE.out.o1).below hS (Nat.le_refl _)) l1) ?_
        rintro e Y ⟨rfl, hb⟩
        exact hK.out _ _ (show _ = _ from rfl) hb
    case fin =>
      intro v X hX hv
      have r0 := hv 3 (by decide)
      simp only [phAll, Act.put, List.setIfInBounds_toArray, List.set_cons_zero, List.set_cons_succ]
      rw [show v 3 = _ from r0]
      simp only [phTail, List.drop_succ_cons, List.drop_zero]
      go_wp2_with fail
      go_meet
      exact ⟨rfl, Lib.hid (HE.out.to hX)⟩
  case rest =>
  obtain ⟨rfl, HE⟩ := hcut
  have c0 := cell_of_row wc w2.heap.size 0 _ _ _ HE.out.b1
  have c1 := cell_of_row wc w2.heap.size 1 _ _ _ HE.out.b1
  have c2 := cell_of_row wc w2.heap.size 2 _ _ _ HE.out.b1
  have c3 := cell_of_row wc w2.heap.size 3 _ _ _ HE.out.b1
  have c4 := cell_of_row wc w2.heap.size 4 _ _ _ HE.out.b1
  have c5 := cell_of_row wc w2.heap.size 5 _ _ _ HE.out.b1
  have c6 := cell_of_row wc w2.heap.size 6 _ _ _ HE.out.b1
  go_wp2_with fail
  refine Calls.mono (HMK.out _ _ _ _ _ HE.out.o1) ?_
  rintro e w5 ⟨rfl, ho, hg⟩
  have HE := Lib.hid (HE.out.m1 ho hg D81.out D1'.out)
  clear ho hg c0 c1 c2 c3 c4 c5 c6
  have nk0 : ¬ ((1 : Int) + q.length < 0) := by omega
  have c0 := cell_of_row w5 g11 0 _ _ _ HE.out.b11
  have c1 := cell_of_row w5 g11 1 _ _ _ HE.out.b11
  have c2 := cell_of_row w5 g11 2 _ _ _ HE.out.b11
  have c3 := cell_of_row w5 g11 3 _ _ _ HE.out.b11
  have c4 := cell_of_row w5 g11 4 _ _ _ HE.out.b11
  have c5 := cell_of_row w5 g11 5 _ _ _ HE.out.b11
  have c6 := cell_of_row w5 g11 6 _ _ _ HE.out.b11
  have d0 := cell_of_row w5 g8 0 _ _ _ HE.out.b8
  have d1 := cell_of_row w5 g8 1 _ _ _ HE.out.b8
  have d2 := cell_of_row w5 g8 2 _ _ _ HE.out.b8
  have d3 := cell_of_row w5 g8 3 _ _ _ HE.out.b8
  have d4 := cell_of_row w5 g8 4 _ _ _ HE.out.b8
  have d5 := cell_of_row w5 g8 5 _ _ _ HE.out.b8
  have d6 := cell_of_row w5 g8 6 _ _ _ HE.out.b8
  go_wp2_with fail
  refine Calls.mono (HEQ'.out b11 b8 c11 c8 _ (lies_own HE.out.o11) (lies_own HE.out.o8)) ?_
  rintro e w6 ⟨rfl, hb⟩
  have HE := Lib.hid (HE.out.to hb)
  clear hb
  clear c0 c1 c2 c3 c4 c5 c6 d0 d1 d2 d3 d4 d5 d6
  have c0 := cell_of_row w6 g11 0 _ _ _ HE.out.b11
  have c1 := cell_of_row w6 g11 1 _ _ _ HE.out.b11
  have c2 := cell_of_row w6 g11 2 _ _ _ HE.out.b11
  have c3 := cell_of_row w6 g11 3 _ _ _ HE.out.b11
  have c4 := cell_of_row w6 g11 4 _ _ _ HE.out.b11
  have c5 := cell_of_row w6 g11 5 _ _ _ HE.out.b11
  have c6 := cell_of_row w6 g11 6 _ _ _ HE.out.b11
  go_wp2_with fail
  refine Calls.mono (HMK'.out _ _ _ _ _ HE.out.o11) ?_
  rintro e w7 ⟨rfl, ho, hg⟩
  have HE := Lib.hid (HE.out.m11 ho hg D8.out D1.out)
  clear ho hg c0 c1 c2 c3 c4 c5 c6
  have nk1 : ¬ ((1 : Int) + q'.length < 0) := by omega
  have nk2 : ((1 : Int) + q'.length != 1 + q'.length) = false := by simp
  have c0 := cell_of_row w7 g11 0 _ _ _ HE.out.b11
  have c1 := cell_of_row w7 g11 1 _ _ _ HE.out.b11
  have c2 := cell_of_row w7 g11 2 _ _ _ HE.out.b11
  have c3 := cell_of_row w7 g11 3 _ _ _ HE.out.b11
  have c4 := cell_of_row w7 g11 4 _ _ _ HE.out.b11
  have c5 := cell_of_row w7 g11 5 _ _ _ HE.out.b11
  have c6 := cell_of_row w7 g11 6 _ _ _ HE.out.b11
  go_wp2_with fail
  refine Calls.mono (HHD'.out _ _ _ (lies_own HE.out.o11)) ?_
  rintro e w8 ⟨rfl, hb⟩
  have HE := Lib.hid (HE.out.to hb)
  clear hb c0 c1 c2 c3 c4 c5 c6
  go_upto_region 24 with (fail)
  have hw8 : g11 < w8.heap.size := (Array.getElem?_eq_some_iff.1 HE.out.b11).1
  go_cut [16, 17, 18] (fun s16 s17 s18 wx => ∃ g16 b16 c16, s16 = .pointer (some ⟨g16, 0, none⟩) ∧ s17 = .int .i64 k1 ∧ s18 = .int .i64 k2 ∧ Hid (EvW w (.cells #[.int .i64 l, .int .i64 a, .int .i64 d, .int .i64 t, .int .i64 s, .int .i64 p, .slice b q.length c] 29) (.cells #[.int .i64 zk, .int .i64 zp, .int .i64 zd, .int .i64 zi, .int .i64 zq, .int .i64 zr] 31) g8 w2.heap.size g11 #[.int .i64 l', .int .i64 a', .int .i64 d', .int .i64 t', .int .i64 s', .int .i64 p', .slice b8 q'.length c8] #[.int .i64 l, .int .i64 a, .int .i64 d, .int .i64 t, .int .i64 s, .int .i64 p, .slice (some ⟨g1, 0, none⟩) q.length q.length] #[.int .i64 l', .int .i64 a', .int .i64 d', .int .i64 t', .int .i64 s', .int .i64 p', .slice b11 q'.length c11] (.slice b8 q'.length c8) (.slice (some ⟨g1, 0, none⟩) q.length q.length) (.slice b11 q'.length c11) q'.length q.length q'.length (kC q') (kC (marksI 1 q.length)) (kC (marksI 1 q'.length)) wx ∧ wx.heap[g16]? = some (.cells #[.int .i64 l', .int .i64 a', .int .i64 d', .int .i64 t', .int .i64 s', .int .i64 p', .slice b16 q'.length c16] 24) ∧ wx.ownsRow w8.heap.size 3 1 (.slice b16 q'.length c16) q'.length (kC q')))
  case first =>
    refine wp_region_phj 13 [some 95, some 96, some 97, some 98, some 99, some 94, some 100, some 101, some 102, some 16, none, some 17, some 18] (fun X => Below w8.heap.size w8 X) (herQ [atK 0 (isV (.agg #[.int .i64 l, .int .i64 a, .int .i64 d, .int .i64 t, .int .i64 s, .int .i64 p, .slice b q.length c])), atK 1 (isOwn w8.heap.size l a d t s p q), atK 2 (isV (.agg #[.int .i64 zk, .int .i64 zp, .int .i64 zd, .int .i64 zi, .int .i64 zq, .int .i64 zr])), atK 3 (isV (.agg #[.int .i64 zk, .int .i64 zp, .int .i64 zd, .int .i64 zi, .int .i64 zq, .int .i64 zr])), atK 4 (isRes w8.heap.size l' a' d' t' s' p' q' [.int .i64 k1, .int .i64 k2]), atK 5 (isRes w8.heap.size l' a' d' t' s' p' q' [.int .i64 k1, .int .i64 k2]), atK 6 (isOwn w8.heap.size l' a' d' t' s' p' q'), atK 7 (isV (.int .i64 k1)), atK 8 (isV (.int .i64 k2)), atK 9 (isNew w8.heap.size), storeQ w8.heap.size 10 9 l' a' d' t' s' p' q', atK 11 (isV (.int .i64 k1)), atK 12 (isV (.int .i64 k2))]) (herD [atK 0 (isV (.agg #[.int .i64 l, .int .i64 a, .int .i64 d, .int .i64 t, .int .i64 s, .int .i64 p, .slice b q.length c])), atK 1 (isOwn w8.heap.size l a d t s p q), atK 2 (isV (.agg #[.int .i64 zk, .int .i64 zp, .int .i64 zd, .int .i64 zi, .int .i64 zq, .int .i64 zr])), atK 3 (isV (.agg #[.int .i64 zk, .int .i64 zp, .int .i64 zd, .int .i64 zi, .int .i64 zq, .int .i64 zr])), atK 4 (isRes w8.heap.size l' a' d' t' s' p' q' [.int .i64 k1, .int .i64 k2]), atK 5 (isRes w8.heap.size l' a' d' t' s' p' q' [.int .i64 k1, .int .i64 k2]), atK 6 (isOwn w8.heap.size l' a' d' t' s' p' q'), atK 7 (isV (.int .i64 k1)), atK 8 (isV (.int .i64 k2)), atK 9 (isNew w8.heap.size), storeQ w8.heap.size 10 9 l' a' d' t' s' p' q', atK 11 (isV (.int .i64 k1)), atK 12 (isV (.int .i64 k2))]) (by kernel_rfl) (by kernel_rfl) (by kernel_rfl) (Below.refl _ _).drew ?steps ?fin
    case steps =>
      refine PjSteps.cons ?s0 (PjSteps.cons ?s1 (PjSteps.cons ?s2 (PjSteps.cons ?s3 (PjSteps.cons ?s4 (PjSteps.cons ?s5 (PjSteps.cons ?s6 (PjSteps.cons ?s7 (PjSteps.cons ?s8 (PjSteps.cons ?s9 (PjSteps.cons ?s10 (PjSteps.cons ?s11 (PjSteps.cons ?s12 (PjSteps.nil)))))))))))))
      case s0 =>
        intro v f a X hat hS hv hnk hcl haf K hK
        have ev := hat.old 2 (fun k hk => absurd (List.mem_of_getElem? hk) (by decide))
        obtain ⟨tm, df⟩ := a
        have c0 := cell_of_row X w.heap.size 0 _ _ _ (blk_bel HE.out.hx.box hS)
        have c1 := cell_of_row X w.heap.size 1 _ _ _ (blk_bel HE.out.hx.box hS)
        have c2 := cell_of_row X w.heap.size 2 _ _ _ (blk_bel HE.out.hx.box hS)
        have c3 := cell_of_row X w.heap.size 3 _ _ _ (blk_bel HE.out.hx.box hS)
        have c4 := cell_of_row X w.heap.size 4 _ _ _ (blk_bel HE.out.hx.box hS)
        have c5 := cell_of_row X w.heap.size 5 _ _ _ (blk_bel HE.out.hx.box hS)
        have c6 := cell_of_row X w.heap.size 6 _ _ _ (blk_bel HE.out.hx.box hS)
        go_simp
        exact hK.out _ _ (herQ_at rfl (show _ = _ from rfl)) (herQ_same hv hnk hcl _) hS
      case s1 =>
        intro v f a X hat hS hv hnk hcl haf K hK
        have f0 := ph_haf haf 0 (by kernel_rfl)
        have ev0 := hat.done 0 95 f0 rfl
        have h0 := hv 0 f0
        rw [show v 0 = _ from h0] at ev0
        obtain ⟨tm, df⟩ := a
        go_simp
        refine Calls.mono (HTS.out b c _ (HZ.out.below (HE.out.hx.bel.trans (hS.mono HE.out.hx.bel.size)) (Nat.le_refl _))) ?_
        rintro e Y ⟨g, rfl, ho, hb⟩
        exact hK.out _ _ (herQ_at rfl (⟨_, _, rfl, own_base ho hS.size⟩)) (herQ_keep hv hnk hcl hb _) (hS.trans (hb.mono hS.size))
      case s2 =>
        intro v f a X hat hS hv hnk hcl haf K hK
        have ev := hat.old 3 (fun k hk => absurd (List.mem_of_getElem? hk) (by decide))
        obtain ⟨tm, df⟩ := a
        have c0 := cell_of_row X (w.heap.size + 1) 0 _ _ _ (blk_bel HE.out.hx.box2 hS)
        have c1 := cell_of_row X (w.heap.size + 1) 1 _ _ _ (blk_bel HE.out.hx.box2 hS)
        have c2 := cell_of_row X (w.heap.size + 1) 2 _ _ _ (blk_bel HE.out.hx.box2 hS)
        have c3 := cell_of_row X (w.heap.size + 1) 3 _ _ _ (blk_bel HE.out.hx.box2 hS)
        have c4 := cell_of_row X (w.heap.size + 1) 4 _ _ _ (blk_bel HE.out.hx.box2 hS)
        have c5 := cell_of_row X (w.heap.size + 1) 5 _ _ _ (blk_bel HE.out.hx.box2 hS)
        go_simp
        exact hK.out _ _ (herQ_at rfl (show _ = _ from rfl)) (herQ_same hv hnk hcl _) hS
      case s3 =>
        intro v f a X hat hS hv hnk hcl haf K hK
        have f0 := ph_haf haf 2 (by kernel_rfl)
        have ev0 := hat.done 2 97 f0 rfl
        have h0 := hv 2 f0
        rw [show v 2 = _ from h0] at ev0
        obtain ⟨tm, df⟩ := a
        go_simp
        refine Calls.mono (HTT.out _) ?_
        rintro e Y ⟨rfl, hb⟩
        exact hK.out _ _ (herQ_at rfl (show _ = _ from rfl)) (herQ_keep hv hnk hcl hb _) (hS.trans (hb.mono hS.size))
      case s4 =>
        intro v f a X hat hS hv hnk hcl haf K hK
        have f0 := ph_haf haf 1 (by kernel_rfl)
        have ev0 := hat.done 1 96 f0 rfl
        obtain ⟨b0, c0, h0, o0⟩ := hv 1 f0
        rw [h0] at ev0
        have f1 := ph_haf haf 3 (by kernel_rfl)
        have ev1 := hat.done 3 98 f1 rfl
        have h1 := hv 3 f1
        rw [show v 3 = _ from h1] at ev1
        obtain ⟨tm, df⟩ := a
        go_simp
        refine Calls.mono (HI.out b0 c0 _ (lies_own o0)) ?_
        rintro e Y ⟨b9, c9, rfl, ho, hb⟩
        exact hK.out _ _ (herQ_at rfl (⟨b9, c9, rfl, own_base ho hS.size⟩)) (herQ_keep hv hnk hcl hb _) (hS.trans (hb.mono hS.size))
      case s5 =>
        intro v f a X hat hS hv hnk hcl haf K hK
        have f0 := ph_haf haf 4 (by kernel_rfl)
        have ev0 := hat.done 4 99 f0 rfl
        obtain ⟨b0, c0, h0, o0⟩ := hv 4 f0
        rw [h0] at ev0
        obtain ⟨tm, df⟩ := a
        go_simp
        exact hK.out _ _ (herQ_at rfl (⟨b0, c0, rfl, o0⟩)) (herQ_same hv hnk hcl _) hS
      case s6 =>
        intro v f a X hat hS hv hnk hcl haf K hK
        have f0 := ph_haf haf 5 (by kernel_rfl)
        have ev0 := hat.done 5 94 f0 rfl
        obtain ⟨b0, c0, h0, o0⟩ := hv 5 f0
        rw [h0] at ev0
        obtain ⟨tm, df⟩ := a
        go_simp
        exact hK.out _ _ (herQ_at rfl (⟨b0, c0, rfl, o0⟩)) (herQ_same hv hnk hcl _) hS
      case s7 =>
        intro v f a X hat hS hv hnk hcl haf K hK
        have f0 := ph_haf haf 5 (by kernel_rfl)
        have ev0 := hat.done 5 94 f0 rfl
        obtain ⟨b0, c0, h0, o0⟩ := hv 5 f0
        rw [h0] at ev0
        obtain ⟨tm, df⟩ := a
        go_simp
        exact hK.out _ _ (herQ_at rfl (show _ = _ from rfl)) (herQ_same hv hnk hcl _) hS
      case s8 =>
        intro v f a X hat hS hv hnk hcl haf K hK
        have f0 := ph_haf haf 5 (by kernel_rfl)
        have ev0 := hat.done 5 94 f0 rfl
        obtain ⟨b0, c0, h0, o0⟩ := hv 5 f0
        rw [h0] at ev0
        obtain ⟨tm, df⟩ := a
        go_simp
        exact hK.out _ _ (herQ_at rfl (show _ = _ from rfl)) (herQ_same hv hnk hcl _) hS
      case s9 =>
        intro v f a X hat hS hv hnk hcl haf K hK
        obtain ⟨tm, df⟩ := a
        go_simp
        exact hK.out _ _ (herQ_at rfl ⟨X.heap.size, rfl, hS.size, _, _, _, _, _, _, _, heap_alloc_new X _⟩) (herQ_keep hv hnk hcl (dbox X _) _) (hS.trans ((dbox X _).mono hS.size))
      case s10 =>
        intro v f a X hat hS hv hnk hcl haf K hK
        have f0 := ph_haf haf 9 (by kernel_rfl)
        have ev0 := hat.done 9 16 f0 rfl
        obtain ⟨gn0, h0, hB0, x0, x1, x2, x3, x4, x5, x6, hbx0⟩ := hv 9 f0
        rw [h0] at ev0
        have f1 := ph_haf haf 6 (by kernel_rfl)
        have ev1 := hat.done 6 100 f1 rfl
        obtain ⟨b1, c1, h1, o1⟩ := hv 6 f1
        rw [h1] at ev1
        obtain ⟨tm, df⟩ := a
        have e0 := cell_of_row X gn0 0 _ _ _ hbx0
        have z0 := frozen_of_row X gn0 0 _ _ hbx0
        have e1 := cell_of_row X gn0 1 _ _ _ hbx0
        have z1 := frozen_of_row X gn0 1 _ _ hbx0
        have e2 := cell_of_row X gn0 2 _ _ _ hbx0
        have z2 := frozen_of_row X gn0 2 _ _ hbx0
        have e3 := cell_of_row X gn0 3 _ _ _ hbx0
        have z3 := frozen_of_row X gn0 3 _ _ hbx0
        have e4 := cell_of_row X gn0 4 _ _ _ hbx0
        have z4 := frozen_of_row X gn0 4 _ _ hbx0
        have e5 := cell_of_row X gn0 5 _ _ _ hbx0
        have z5 := frozen_of_row X gn0 5 _ _ hbx0
        have e6 := cell_of_row X gn0 6 _ _ _ hbx0
        have z6 := frozen_of_row X gn0 6 _ _ hbx0
        go_simp
        refine hK.out undef _ ?h1 ?h2 (ev_bel7 hS (by omega) _ _ _ _ _ _ _)
        case h1 => exact ⟨gn0, b1, c1, (phU_ne (by decide)).trans h0, hB0, st7_box hbx0 _ _ _ _ _ _ _, st7_own o1 (own_ne o1 hbx0 (by decide)) _ _ _ _ _ _ _⟩
        case h2 =>
          intro j hj
          have hq := herQ_same hv hnk hcl undef j hj
          rcases j with _ | _ | _ | _ | _ | _ | _ | _ | _ | _ | _ | _ | _ | _
          · show (_ : Value) = _
            exact hq
          · exact let ⟨b, c, h1, h2⟩ := hq; ⟨b, c, h1, st7_own h2 (own_ne h2 hbx0 (by decide)) _ _ _ _ _ _ _⟩
          · show (_ : Value) = _
            exact hq
          · show (_ : Value) = _
            exact hq
          · exact let ⟨b, c, h1, h2⟩ := hq; ⟨b, c, h1, st7_own h2 (own_ne h2 hbx0 (by decide)) _ _ _ _ _ _ _⟩
          · exact let ⟨b, c, h1, h2⟩ := hq; ⟨b, c, h1, st7_own h2 (own_ne h2 hbx0 (by decide)) _ _ _ _ _ _ _⟩
          · exact let ⟨b, c, h1, h2⟩ := hq; ⟨b, c, h1, st7_own h2 (own_ne h2 hbx0 (by decide)) _ _ _ _ _ _ _⟩
          · show (_ : Value) = _
            exact hq
          · show (_ : Value) = _
            exact hq
          · obtain ⟨g', h1, h2, y0, y1, y2, y3, y4, y5, y6, h3⟩ := hq
            obtain rfl : g' = gn0 := by
              have := h1.symm.trans ((phU_ne (by decide)).trans h0)
              simpa using this
            exact ⟨g', h1, h2, _, _, _, _, _, _, _, st7_box h3 _ _ _ _ _ _ _⟩
          · exact absurd hj (by rw [hnk]; decide)
          · show (_ : Value) = _
            exact hq
          · show (_ : Value) = _
            exact hq
          · trivial
      case s11 =>
        intro v f a X hat hS hv hnk hcl haf K hK
        have f0 := ph_haf haf 7 (by kernel_rfl)
        have ev0 := hat.done 7 101 f0 rfl
        have h0 := hv 7 f0
        rw [show v 7 = _ from h0] at ev0
        obtain ⟨tm, df⟩ := a
        go_simp
        exact hK.out _ _ (herQ_at rfl (show _ = _ from rfl)) (herQ_same hv hnk hcl _) hS
      case s12 =>
        intro v f a X hat hS hv hnk hcl haf K hK
        have f0 := ph_haf haf 8 (by kernel_rfl)
        have ev0 := hat.done 8 102 f0 rfl
        have h0 := hv 8 f0
        rw [show v 8 = _ from h0] at ev0
        obtain ⟨tm, df⟩ := a
        go_simp
        exact hK.out _ _ (herQ_at rfl (show _ = _ from rfl)) (herQ_same hv hnk hcl _) hS
    case fin =>
      intro v X hX hv
      obtain ⟨g, bR, cR, hg, hBg, hbx, ho⟩ := hv 10 (by decide)
      have r0 := hv 11 (by decide)
      have r1 := hv 12 (by decide)
      simp only [pjAll, Act.put, List.setIfInBounds_toArray, List.set_cons_zero, List.set_cons_succ]
      rw [show v 9 = _ from hg, show v 11 = _ from r0, show v 12 = _ from r1]
      simp only [phTail, List.drop_succ_cons, List.drop_zero]
      go_wp2_with fail
      go_meet
      exact ⟨g, bR, cR, rfl, rfl, rfl, Lib.hid ⟨HE.out.to hX, hbx, ho⟩⟩
  case rest =>
  obtain ⟨g16, b16, c16, rfl, rfl, rfl, hc⟩ := hcut
  have HE := Lib.hid hc.out.1
  have HB16 := Lib.hid hc.out.2.1
  have HO16 := Lib.hid hc.out.2.2
  clear hc
  have c0 := cell_of_row wc g16 0 _ _ _ HB16.out
  have c1 := cell_of_row wc g16 1 _ _ _ HB16.out
  have c2 := cell_of_row wc g16 2 _ _ _ HB16.out
  have c3 := cell_of_row wc g16 3 _ _ _ HB16.out
  have c4 := cell_of_row wc g16 4 _ _ _ HB16.out
  have c5 := cell_of_row wc g16 5 _ _ _ HB16.out
  have c6 := cell_of_row wc g16 6 _ _ _ HB16.out
  have d0 := cell_of_row wc g8 0 _ _ _ HE.out.b8
  have d1 := cell_of_row wc g8 1 _ _ _ HE.out.b8
  have d2 := cell_of_row wc g8 2 _ _ _ HE.out.b8
  have d3 := cell_of_row wc g8 3 _ _ _ HE.out.b8
  have d4 := cell_of_row wc g8 4 _ _ _ HE.out.b8
  have d5 := cell_of_row wc g8 5 _ _ _ HE.out.b8
  have d6 := cell_of_row wc g8 6 _ _ _ HE.out.b8
  go_wp2_with fail
  refine Calls.mono (HEQ'.out b16 b8 c16 c8 _ (lies_own HO16.out) (lies_own HE.out.o8)) ?_
  rintro e w9 ⟨rfl, hb⟩
  have HE := Lib.hid (HE.out.to hb)
  clear hb
  clear c0 c1 c2 c3 c4 c5 c6 d0 d1 d2 d3 d4 d5 d6
  have c0 := cell_of_row w9 g11 0 _ _ _ HE.out.b11
  have c1 := cell_of_row w9 g11 1 _ _ _ HE.out.b11
  have c2 := cell_of_row w9 g11 2 _ _ _ HE.out.b11
  have c3 := cell_of_row w9 g11 3 _ _ _ HE.out.b11
  have c4 := cell_of_row w9 g11 4 _ _ _ HE.out.b11
  have c5 := cell_of_row w9 g11 5 _ _ _ HE.out.b11
  have c6 := cell_of_row w9 g11 6 _ _ _ HE.out.b11
  go_wp2_with fail
  refine Calls.mono (HHD'.out _ _ _ (lies_own HE.out.o11)) ?_
  rintro e w10 ⟨rfl, hb⟩
  have HE := Lib.hid (HE.out.to hb)
  clear hb c0 c1 c2 c3 c4 c5 c6
  go_wp2
  go_ret
  exact ⟨rfl, HE.out.hx.bel⟩
theorem FnExactTakeEvent_came (cs ds : Array Value) (W : World) (h : Came Try.prog W 29 cs.toList) (g : Came Try.prog W 31 ds.toList) : Calls Try.prog 6 #[.agg cs, .agg ds] W fun e w' => e = .returned (.bool true) ∧ Below W.heap.size W w' := by
  obtain ⟨x, b, c, e, hz, hm⟩ := came_src h
  obtain ⟨z, e'⟩ := came_tsk g
  rw [e, e']
  exact FnExactTakeEvent_walk x.l x.a x.d x.t x.s x.p x.q z.k z.p z.d z.i z.q z.r b c hm W hz
set_option maxRecDepth 100000 in
set_option maxHeartbeats 1000000 in
theorem FnExactDropEvents_walk (l a d t s p : Int) (q : List Int) (zk zp zd zi zq zr : Int) (rn : Bool) (b : Option Addr) (c : Nat) (hm : q.length ≤ maxLen) (w : World) (hz : Lies w b (kC q)) :
    Calls Try.prog 7 #[.agg #[.int .i64 l, .int .i64 a, .int .i64 d, .int .i64 t, .int .i64 s, .int .i64 p, .slice b q.length c], .agg #[.int .i64 zk, .int .i64 zp, .int .i64 zd, .int .i64 zi, .int .i64 zq, .int .i64 zr], .bool rn] w fun e w' => e = .returned (.bool true) ∧ Below w.heap.size w w' := by
  have HX := Lib.hid (Bx2.start w (.cells #[.int .i64 l, .int .i64 a, .int .i64 d, .int .i64 t, .int .i64 s, .int .i64 p, .slice b q.length c] 29) (.cells #[.int .i64 zk, .int .i64 zp, .int .i64 zd, .int .i64 zi, .int .i64 zq, .int .i64 zr] 31))
  have HZ := Lib.hid hz
  have HSZ := Lib.hid (fun X => szSource_any ⟨l, a, d, t, s, p, q⟩ b c hm X)
  have HSZ : Hid (∀ X, Calls Try.prog 17 #[.agg #[.int .i64 l, .int .i64 a, .int .i64 d, .int .i64 t, .int .i64 s, .int .i64 p, .slice b q.length c], .int .i64 1048576] X fun e w' => Below X.heap.size X w' ∧ ∃ r : Int, e = .returned (.int .i64 r) ∧ (r = -1 ∨ (0 ≤ r ∧ q.length ≤ 1048576))) := HSZ
  have HS := Lib.hid (fun b c (hf : Fits b q.length c) w hz => specDropEvents_any ⟨l, a, d, t, s, p, q⟩ ⟨zk, zp, zd, zi, zq, zr⟩ rn b c hm w hz)
  have HI := Lib.hid (fun b c w hz => implDropEvents_any ⟨l, a, d, t, s, p, q⟩ ⟨zk, zp, zd, zi, zq, zr⟩ rn b c hm w hz)
  have HQN := Lib.hid (DropEvents_len ⟨l, a, d, t, s, p, q⟩ ⟨zk, zp, zd, zi, zq, zr⟩ rn)
  generalize drpF ⟨l, a, d, t, s, p, q⟩ ⟨zk, zp, zd, zi, zq, zr⟩ rn = R at *
  obtain ⟨⟨l', a', d', t', s', p', q'⟩, k1⟩ := R
  have hn' : q'.length ≤ 5 := HQN.out
  have HS : Hid (∀ b c, Fits b q.length c → ∀ w, Lies w b (kC q) → Calls Try.prog 26 #[.agg #[.int .i64 l, .int .i64 a, .int .i64 d, .int .i64 t, .int .i64 s, .int .i64 p, .slice b q.length c], .agg #[.int .i64 zk, .int .i64 zp, .int .i64 zd, .int .i64 zi, .int .i64 zq, .int .i64 zr], .bool rn] w fun e w' => ∃ b c, e = .returned (.tuple (.agg #[.int .i64 l', .int .i64 a', .int .i64 d', .int .i64 t', .int .i64 s', .int .i64 p', .slice b q'.length c] :: [.int .i64 k1]).toArray) ∧ w'.ownsRow w.heap.size 3 1 (.slice b q'.length c) q'.length (kC q') ∧ Below w.heap.size w w') := HS
  have HI : Hid (∀ b c w, Lies w b (kC q) → Calls Try.prog 27 #[.agg #[.int .i64 l, .int .i64 a, .int .i64 d, .int .i64 t, .int .i64 s, .int .i64 p, .slice b q.length c], .agg #[.int .i64 zk, .int .i64 zp, .int .i64 zd, .int .i64 zi, .int .i64 zq, .int .i64 zr], .bool rn] w fun e w' => ∃ b c, e = .returned (.tuple (.agg #[.int .i64 l', .int .i64 a', .int .i64 d', .int .i64 t', .int .i64 s', .int .i64 p', .slice b q'.length c] :: [.int .i64 k1]).toArray) ∧ w'.ownsRow w.heap.size 3 1 (.slice b q'.length c) q'.length (kC q') ∧ Below w.heap.size w w') := HI
  clear HQN
  clear hz
  go_enter Try.func7, Try.ntmps7
  go_upto_region 2 with (fail)
  generalize (w.alloc (.cells #[.int .i64 l, .int .i64 a, .int .i64 d, .int .i64 t, .int .i64 s, .int .i64 p, .slice b q.length c] 29)).alloc (.cells #[.int .i64 zk, .int .i64 zp, .int .i64 zd, .int .i64 zi, .int .i64 zq, .int .i64 zr] 31) = W0 at *
  have c0 := cell_of_row W0 w.heap.size 0 _ _ _ HX.out.box
  have c1 := cell_of_row W0 w.heap.size 1 _ _ _ HX.out.box
  have c2 := cell_of_row W0 w.heap.size 2 _ _ _ HX.out.box
  have c3 := cell_of_row W0 w.heap.size 3 _ _ _ HX.out.box
  have c4 := cell_of_row W0 w.heap.size 4 _ _ _ HX.out.box
  have c5 := cell_of_row W0 w.heap.size 5 _ _ _ HX.out.box
  have c6 := cell_of_row W0 w.heap.size 6 _ _ _ HX.out.box
  go_wp2_with fail
  refine Calls.mono (HSZ.out _) ?_
  rintro e w1 ⟨hb, r, rfl, hr⟩
  have HX := Lib.hid (HX.out.to hb)
  clear hb HSZ c0 c1 c2 c3 c4 c5 c6
  by_cases hr0 : r < 0
  · clear hr
    go_wp2
    go_ret
    exact ⟨rfl, HX.out.bel⟩
  have hn : q.length ≤ 1048576 := by omega
  have HTS := Lib.hid (fun b c w hz => toS_ph l a d t s p q b c hn w hz)
  have HTT := Lib.hid (fun w => toT_ph zk zp zd zi zq zr w)
  have HEQ := Lib.hid (fun b b' c c' w hz hy => eqS_ph l a d t s p q b b' c c' hn w hz hy)
  clear hr
  have HEQ' := Lib.hid (fun b b' c c' w hz hy => eqS_ph l' a' d' t' s' p' q' b b' c c' (by omega) w hz hy)
  have HMK := Lib.hid (fun B c b xs w ho => mkS_ph l a d t s p q B c b xs hn w ho)
  have HMK' := Lib.hid (fun B c b xs w ho => mkS_ph l' a' d' t' s' p' q' B c b xs (by omega) w ho)
  have HHD' := Lib.hid (fun c b w hz => hdS_ph l' a' d' t' s' p' q' c b (by omega) w hz)
  go_upto_region 5 with (fail)
  have hw1 : w.heap.size + 2 ≤ w1.heap.size := (Array.getElem?_eq_some_iff.1 HX.out.box2).1
  go_cut [8, 9] (fun s8 s9 wx => ∃ g8 b8 c8, s8 = .pointer (some ⟨g8, 0, none⟩) ∧ s9 = .int .i64 k1 ∧ Hid (Bx2 w (.cells #[.int .i64 l, .int .i64 a, .int .i64 d, .int .i64 t, .int .i64 s, .int .i64 p, .slice b q.length c] 29) (.cells #[.int .i64 zk, .int .i64 zp, .int .i64 zd, .int .i64 zi, .int .i64 zq, .int .i64 zr] 31) wx ∧ wx.heap[g8]? = some (.cells #[.int .i64 l', .int .i64 a', .int .i64 d', .int .i64 t', .int .i64 s', .int .i64 p', .slice b8 q'.length c8] 24) ∧ wx.ownsRow w1.heap.size 3 1 (.slice b8 q'.length c8) q'.length (kC q') ∧ w1.heap.size ≤ g8))
  case first =>
    refine wp_region_phj 12 [some 24, some 25, some 26, some 27, some 28, some 29, some 23, some 30, some 31, some 8, none, some 9] (fun X => Below w1.heap.size w1 X) (herQ [atK 0 (isV (.agg #[.int .i64 l, .int .i64 a, .int .i64 d, .int .i64 t, .int .i64 s, .int .i64 p, .slice b q.length c])), atK 1 (isOwn w1.heap.size l a d t s p q), atK 2 (isV (.agg #[.int .i64 zk, .int .i64 zp, .int .i64 zd, .int .i64 zi, .int .i64 zq, .int .i64 zr])), atK 3 (isV (.agg #[.int .i64 zk, .int .i64 zp, .int .i64 zd, .int .i64 zi, .int .i64 zq, .int .i64 zr])), atK 4 (isV (.bool rn)), atK 5 (isRes w1.heap.size l' a' d' t' s' p' q' [.int .i64 k1]), atK 6 (isRes w1.heap.size l' a' d' t' s' p' q' [.int .i64 k1]), atK 7 (isOwn w1.heap.size l' a' d' t' s' p' q'), atK 8 (isV (.int .i64 k1)), atK 9 (isNew w1.heap.size), storeQ w1.heap.size 10 9 l' a' d' t' s' p' q', atK 11 (isV (.int .i64 k1))]) (herD [atK 0 (isV (.agg #[.int .i64 l, .int .i64 a, .int .i64 d, .int .i64 t, .int .i64 s, .int .i64 p, .slice b q.length c])), atK 1 (isOwn w1.heap.size l a d t s p q), atK 2 (isV (.agg #[.int .i64 zk, .int .i64 zp, .int .i64 zd, .int .i64 zi, .int .i64 zq, .int .i64 zr])), atK 3 (isV (.agg #[.int .i64 zk, .int .i64 zp, .int .i64 zd, .int .i64 zi, .int .i64 zq, .int .i64 zr])), atK 4 (isV (.bool rn)), atK 5 (isRes w1.heap.size l' a' d' t' s' p' q' [.int .i64 k1]), atK 6 (isRes w1.heap.size l' a' d' t' s' p' q' [.int .i64 k1]), atK 7 (isOwn w1.heap.size l' a' d' t' s' p' q'), atK 8 (isV (.int .i64 k1)), atK 9 (isNew w1.heap.size), storeQ w1.heap.size 10 9 l' a' d' t' s' p' q', atK 11 (isV (.int .i64 k1))]) (by kernel_rfl) (by kernel_rfl) (by kernel_rfl) (Below.refl _ _).drew ?steps ?fin
    case steps =>
      refine PjSteps.cons ?s0 (PjSteps.cons ?s1 (PjSteps.cons ?s2 (PjSteps.cons ?s3 (PjSteps.cons ?s4 (PjSteps.cons ?s5 (PjSteps.cons ?s6 (PjSteps.cons ?s7 (PjSteps.cons ?s8 (PjSteps.cons ?s9 (PjSteps.cons ?s10 (PjSteps.cons ?s11 (PjSteps.nil))))))))))))
      case s0 =>
        intro v f a X hat hS hv hnk hcl haf K hK
        have ev := hat.old 3 (fun k hk => absurd (List.mem_of_getElem? hk) (by decide))
        obtain ⟨tm, df⟩ := a
        have c0 := cell_of_row X w.heap.size 0 _ _ _ (blk_bel HX.out.box hS)
        have c1 := cell_of_row X w.heap.size 1 _ _ _ (blk_bel HX.out.box hS)
        have c2 := cell_of_row X w.heap.size 2 _ _ _ (blk_bel HX.out.box hS)
        have c3 := cell_of_row X w.heap.size 3 _ _ _ (blk_bel HX.out.box hS)
        have c4 := cell_of_row X w.heap.size 4 _ _ _ (blk_bel HX.out.box hS)
        have c5 := cell_of_row X w.heap.size 5 _ _ _ (blk_bel HX.out.box hS)
        have c6 := cell_of_row X w.heap.size 6 _ _ _ (blk_bel HX.out.box hS)
        go_simp
        exact hK.out _ _ (herQ_at rfl (show _ = _ from rfl)) (herQ_same hv hnk hcl _) hS
      case s1 =>
        intro v f a X hat hS hv hnk hcl haf K hK
        have f0 := ph_haf haf 0 (by kernel_rfl)
        have ev0 := hat.done 0 24 f0 rfl
        have h0 := hv 0 f0
        rw [show v 0 = _ from h0] at ev0
        obtain ⟨tm, df⟩ := a
        go_simp
        refine Calls.mono (HTS.out b c _ (HZ.out.below (HX.out.bel.trans (hS.mono HX.out.bel.size)) (Nat.le_refl _))) ?_
        rintro e Y ⟨g, rfl, ho, hb⟩
        exact hK.out _ _ (herQ_at rfl (⟨_, _, rfl, own_base ho hS.size⟩)) (herQ_keep hv hnk hcl hb _) (hS.trans (hb.mono hS.size))
      case s2 =>
        intro v f a X hat hS hv hnk hcl haf K hK
        have ev := hat.old 4 (fun k hk => absurd (List.mem_of_getElem? hk) (by decide))
        obtain ⟨tm, df⟩ := a
        have c0 := cell_of_row X (w.heap.size + 1) 0 _ _ _ (blk_bel HX.out.box2 hS)
        have c1 := cell_of_row X (w.heap.size + 1) 1 _ _ _ (blk_bel HX.out.box2 hS)
        have c2 := cell_of_row X (w.heap.size + 1) 2 _ _ _ (blk_bel HX.out.box2 hS)
        have c3 := cell_of_row X (w.heap.size + 1) 3 _ _ _ (blk_bel HX.out.box2 hS)
        have c4 := cell_of_row X (w.heap.size + 1) 4 _ _ _ (blk_bel HX.out.box2 hS)
        have c5 := cell_of_row X (w.heap.size + 1) 5 _ _ _ (blk_bel HX.out.box2 hS)
        go_simp
        exact hK.out _ _ (herQ_at rfl (show _ = _ from rfl)) (herQ_same hv hnk hcl _) hS
      case s3 =>
        intro v f a X hat hS hv hnk hcl haf K hK
        have f0 := ph_haf haf 2 (by kernel_rfl)
        have ev0 := hat.done 2 26 f0 rfl
        have h0 := hv 2 f0
        rw [show v 2 = _ from h0] at ev0
        obtain ⟨tm, df⟩ := a
        go_simp
        refine Calls.mono (HTT.out _) ?_
        rintro e Y ⟨rfl, hb⟩
        exact hK.out _ _ (herQ_at rfl (show _ = _ from rfl)) (herQ_keep hv hnk hcl hb _) (hS.trans (hb.mono hS.size))
      case s4 =>
        intro v f a X hat hS hv hnk hcl haf K hK
        have ev := hat.old 2 (fun k hk => absurd (List.mem_of_getElem? hk) (by decide))
        obtain ⟨tm, df⟩ := a
        go_simp
        exact hK.out _ _ (herQ_at rfl (show _ = _ from rfl)) (herQ_same hv hnk hcl _) hS
      case s5 =>
        intro v f a X hat hS hv hnk hcl haf K hK
        have f0 := ph_haf haf 1 (by kernel_rfl)
        have ev0 := hat.done 1 25 f0 rfl
        obtain ⟨b0, c0, h0, o0⟩ := hv 1 f0
        rw [h0] at ev0
        have f1 := ph_haf haf 3 (by kernel_rfl)
        have ev1 := hat.done 3 27 f1 rfl
        have h1 := hv 3 f1
        rw [show v 3 = _ from h1] at ev1
        have f2 := ph_haf haf 4 (by kernel_rfl)
        have ev2 := hat.done 4 28 f2 rfl
        have h2 := hv 4 f2
        rw [show v 4 = _ from h2] at ev2
        obtain ⟨tm, df⟩ := a
        go_simp
        refine Calls.mono (HS.out b0 c0 (fits_own o0) _ (lies_own o0)) ?_
        rintro e Y ⟨b9, c9, rfl, ho, hb⟩
        exact hK.out _ _ (herQ_at rfl (⟨b9, c9, rfl, own_base ho hS.size⟩)) (herQ_keep hv hnk hcl hb _) (hS.trans (hb.mono hS.size))
      case s6 =>
        intro v f a X hat hS hv hnk hcl haf K hK
        have f0 := ph_haf haf 5 (by kernel_rfl)
        have ev0 := hat.done 5 29 f0 rfl
        obtain ⟨b0, c0, h0, o0⟩ := hv 5 f0
        rw [h0] at ev0
        obtain ⟨tm, df⟩ := a
        go_simp
        exact hK.out _ _ (herQ_at rfl (⟨b0, c0, rfl, o0⟩)) (herQ_same hv hnk hcl _) hS
      case s7 =>
        intro v f a X hat hS hv hnk hcl haf K hK
        have f0 := ph_haf haf 6 (by kernel_rfl)
        have ev0 := hat.done 6 23 f0 rfl
        obtain ⟨b0, c0, h0, o0⟩ := hv 6 f0
        rw [h0] at ev0
        obtain ⟨tm, df⟩ := a
        go_simp
        exact hK.out _ _ (herQ_at rfl (⟨b0, c0, rfl, o0⟩)) (herQ_same hv hnk hcl _) hS
      case s8 =>
        intro v f a X hat hS hv hnk hcl haf K hK
        have f0 := ph_haf haf 6 (by kernel_rfl)
        have ev0 := hat.done 6 23 f0 rfl
        obtain ⟨b0, c0, h0, o0⟩ := hv 6 f0
        rw [h0] at ev0
        obtain ⟨tm, df⟩ := a
        go_simp
        exact hK.out _ _ (herQ_at rfl (show _ = _ from rfl)) (herQ_same hv hnk hcl _) hS
      case s9 =>
        intro v f a X hat hS hv hnk hcl haf K hK
        obtain ⟨tm, df⟩ := a
        go_simp
        exact hK.out _ _ (herQ_at rfl ⟨X.heap.size, rfl, hS.size, _, _, _, _, _, _, _, heap_alloc_new X _⟩) (herQ_keep hv hnk hcl (dbox X _) _) (hS.trans ((dbox X _).mono hS.size))
      case s10 =>
        intro v f a X hat hS hv hnk hcl haf K hK
        have f0 := ph_haf haf 9 (by kernel_rfl)
        have ev0 := hat.done 9 8 f0 rfl
        obtain ⟨gn0, h0, hB0, x0, x1, x2, x3, x4, x5, x6, hbx0⟩ := hv 9 f0
        rw [h0] at ev0
        have f1 := ph_haf haf 7 (by kernel_rfl)
        have ev1 := hat.done 7 30 f1 rfl
        obtain ⟨b1, c1, h1, o1⟩ := hv 7 f1
        rw [h1] at ev1
        obtain ⟨tm, df⟩ := a
        have e0 := cell_of_row X gn0 0 _ _ _ hbx0
        have z0 := frozen_of_row X gn0 0 _ _ hbx0
        have e1 := cell_of_row X gn0 1 _ _ _ hbx0
        have z1 := frozen_of_row X gn0 1 _ _ hbx0
        have e2 := cell_of_row X gn0 2 _ _ _ hbx0
        have z2 := frozen_of_row X gn0 2 _ _ hbx0
        have e3 := cell_of_row X gn0 3 _ _ _ hbx0
        have z3 := frozen_of_row X gn0 3 _ _ hbx0
        have e4 := cell_of_row X gn0 4 _ _ _ hbx0
        have z4 := frozen_of_row X gn0 4 _ _ hbx0
        have e5 := cell_of_row X gn0 5 _ _ _ hbx0
        have z5 := frozen_of_row X gn0 5 _ _ hbx0
        have e6 := cell_of_row X gn0 6 _ _ _ hbx0
        have z6 := frozen_of_row X gn0 6 _ _ hbx0
        go_simp
        refine hK.out undef _ ?h1 ?h2 (ev_bel7 hS (by omega) _ _ _ _ _ _ _)
        case h1 => exact ⟨gn0, b1, c1, (phU_ne (by decide)).trans h0, hB0, st7_box hbx0 _ _ _ _ _ _ _, st7_own o1 (own_ne o1 hbx0 (by decide)) _ _ _ _ _ _ _⟩
        case h2 =>
          intro j hj
          have hq := herQ_same hv hnk hcl undef j hj
          rcases j with _ | _ | _ | _ | _ | _ | _ | _ | _ | _ | _ | _ | _
          · show (_ : Value) = _
            exact hq
          · exact let ⟨b, c, h1, h2⟩ := hq; ⟨b, c, h1, st7_own h2 (own_ne h2 hbx0 (by decide)) _ _ _ _ _ _ _⟩
          · show (_ : Value) = _
            exact hq
          · show (_ : Value) = _
            exact hq
          · show (_ : Value) = _
            exact hq
          · exact let ⟨b, c, h1, h2⟩ := hq; ⟨b, c, h1, st7_own h2 (own_ne h2 hbx0 (by decide)) _ _ _ _ _ _ _⟩
          · exact let ⟨b, c, h1, h2⟩ := hq; ⟨b, c, h1, st7_own h2 (own_ne h2 hbx0 (by decide)) _ _ _ _ _ _ _⟩
          · exact let ⟨b, c, h1, h2⟩ := hq; ⟨b, c, h1, st7_own h2 (own_ne h2 hbx0 (by decide)) _ _ _ _ _ _ _⟩
          · show (_ : Value) = _
            exact hq
          · obtain ⟨g', h1, h2, y0, y1, y2, y3, y4, y5, y6, h3⟩ := hq
            obtain rfl : g' = gn0 := by
              have := h1.symm.trans ((phU_ne (by decide)).trans h0)
              simpa using this
            exact ⟨g', h1, h2, _, _, _, _, _, _, _, st7_box h3 _ _ _ _ _ _ _⟩
          · exact absurd hj (by rw [hnk]; decide)
          · show (_ : Value) = _
            exact hq
          · trivial
      case s11 =>
        intro v f a X hat hS hv hnk hcl haf K hK
        have f0 := ph_haf haf 8 (by kernel_rfl)
        have ev0 := hat.done 8 31 f0 rfl
        have h0 := hv 8 f0
        rw [show v 8 = _ from h0] at ev0
        obtain ⟨tm, df⟩ := a
        go_simp
        exact hK.out _ _ (herQ_at rfl (show _ = _ from rfl)) (herQ_same hv hnk hcl _) hS
    case fin =>
      intro v X hX hv
      obtain ⟨g, bR, cR, hg, hBg, hbx, ho⟩ := hv 10 (by decide)
      have r0 := hv 11 (by decide)
      simp only [pjAll, Act.put, List.setIfInBounds_toArray, List.set_cons_zero, List.set_cons_succ]
      rw [show v 9 = _ from hg, show v 11 = _ from r0]
      simp only [phTail, List.drop_succ_cons, List.drop_zero]
      go_wp2_with fail
      go_meet
      exact ⟨g, bR, cR, rfl, rfl, Lib.hid ⟨HX.out.to hX, hbx, ho, hBg⟩⟩
  case rest =>
  obtain ⟨g8, b8, c8, rfl, rfl, hc⟩ := hcut
  have HX := Lib.hid hc.out.1
  have HB8 := Lib.hid hc.out.2.1
  have HO8 := Lib.hid hc.out.2.2.1
  have hg8 := hc.out.2.2.2
  have hg8w : g8 < wc.heap.size := (Array.getElem?_eq_some_iff.1 HB8.out).1
  have HOC := HO8
  clear hc
  have c0 := cell_of_row wc w.heap.size 0 _ _ _ HX.out.box
  have c1 := cell_of_row wc w.heap.size 1 _ _ _ HX.out.box
  have c2 := cell_of_row wc w.heap.size 2 _ _ _ HX.out.box
  have c3 := cell_of_row wc w.heap.size 3 _ _ _ HX.out.box
  have c4 := cell_of_row wc w.heap.size 4 _ _ _ HX.out.box
  have c5 := cell_of_row wc w.heap.size 5 _ _ _ HX.out.box
  have c6 := cell_of_row wc w.heap.size 6 _ _ _ HX.out.box
  go_wp2_with fail
  refine Calls.mono (HTS.out b c _ (HZ.out.below HX.out.bel (Nat.le_refl _))) ?_
  rintro e w2 ⟨g1, rfl, ho, hb⟩
  have HX := Lib.hid (HX.out.to hb)
  have HO1 := Lib.hid ho
  have HB8 := Lib.hid (blk_bel HB8.out hb)
  have HO8 := Lib.hid (own_bl HO8.out hb)
  have D81 := Lib.hid (ob_ne HOC.out ho (Nat.le_refl _))
  have hwc := hb.size
  clear hb ho c0 c1 c2 c3 c4 c5 c6
  go_upto_region 7 with (fail)
  have HB1 := Lib.hid (heap_alloc_new w2 (.cells #[.int .i64 l, .int .i64 a, .int .i64 d, .int .i64 t, .int .i64 s, .int .i64 p, .slice (some ⟨g1, 0, none⟩) q.length q.length] 24))
  have HX := Lib.hid (HX.out.to (dbox w2 (.cells #[.int .i64 l, .int .i64 a, .int .i64 d, .int .i64 t, .int .i64 s, .int .i64 p, .slice (some ⟨g1, 0, none⟩) q.length q.length] 24)))
  have HB8 := Lib.hid (blk_bel HB8.out (dbox w2 (.cells #[.int .i64 l, .int .i64 a, .int .i64 d, .int .i64 t, .int .i64 s, .int .i64 p, .slice (some ⟨g1, 0, none⟩) q.length q.length] 24)))
  have HO8' := HO8
  have HO1' := HO1
  have HO8 := Lib.hid (own_bl HO8.out (dbox w2 (.cells #[.int .i64 l, .int .i64 a, .int .i64 d, .int .i64 t, .int .i64 s, .int .i64 p, .slice (some ⟨g1, 0, none⟩) q.length q.length] 24)))
  have HO1 := Lib.hid (own_bl HO1.out (dbox w2 (.cells #[.int .i64 l, .int .i64 a, .int .i64 d, .int .i64 t, .int .i64 s, .int .i64 p, .slice (some ⟨g1, 0, none⟩) q.length q.length] 24)))
  have hw3 : w2.heap.size + 1 ≤ (w2.alloc (.cells #[.int .i64 l, .int .i64 a, .int .i64 d, .int .i64 t, .int .i64 s, .int .i64 p, .slice (some ⟨g1, 0, none⟩) q.length q.length] 24)).heap.size := by simp
  generalize w2.alloc (.cells #[.int .i64 l, .int .i64 a, .int .i64 d, .int .i64 t, .int .i64 s, .int .i64 p, .slice (some ⟨g1, 0, none⟩) q.length q.length] 24) = W3 at *
  go_cut [11, 12] (fun s11 s12 wx => ∃ g11 b11 c11, s11 = .pointer (some ⟨g11, 0, none⟩) ∧ s12 = .int .i64 k1 ∧ Hid (EvW w (.cells #[.int .i64 l, .int .i64 a, .int .i64 d, .int .i64 t, .int .i64 s, .int .i64 p, .slice b q.length c] 29) (.cells #[.int .i64 zk, .int .i64 zp, .int .i64 zd, .int .i64 zi, .int .i64 zq, .int .i64 zr] 31) g8 w2.heap.size g11 #[.int .i64 l', .int .i64 a', .int .i64 d', .int .i64 t', .int .i64 s', .int .i64 p', .slice b8 q'.length c8] #[.int .i64 l, .int .i64 a, .int .i64 d, .int .i64 t, .int .i64 s, .int .i64 p, .slice (some ⟨g1, 0, none⟩) q.length q.length] #[.int .i64 l', .int .i64 a', .int .i64 d', .int .i64 t', .int .i64 s', .int .i64 p', .slice b11 q'.length c11] (.slice b8 q'.length c8) (.slice (some ⟨g1, 0, none⟩) q.length q.length) (.slice b11 q'.length c11) q'.length q.length q'.length (kC q') (kC q) (kC q') wx ∧ wx.ownsRow W3.heap.size 3 1 (.slice b11 q'.length c11) q'.length (kC q') ∧ W3.heap.size ≤ g11))
  case first =>
    refine wp_region_phj 11 [some 35, some 36, some 37, some 38, some 39, some 34, some 40, some 41, some 11, none, some 12] (fun X => Below W3.heap.size W3 X) (herQ [atK 0 (isV (.agg #[.int .i64 l, .int .i64 a, .int .i64 d, .int .i64 t, .int .i64 s, .int .i64 p, .slice (some ⟨g1, 0, none⟩) q.length q.length])), atK 1 (isV (.agg #[.int .i64 zk, .int .i64 zp, .int .i64 zd, .int .i64 zi, .int .i64 zq, .int .i64 zr])), atK 2 (isV (.agg #[.int .i64 zk, .int .i64 zp, .int .i64 zd, .int .i64 zi, .int .i64 zq, .int .i64 zr])), atK 3 (isV (.bool rn)), atK 4 (isRes W3.heap.size l' a' d' t' s' p' q' [.int .i64 k1]), atK 5 (isRes W3.heap.size l' a' d' t' s' p' q' [.int .i64 k1]), atK 6 (isOwn W3.heap.size l' a' d' t' s' p' q'), atK 7 (isV (.int .i64 k1)), atK 8 (isNew W3.heap.size), storeQ W3.heap.size 9 8 l' a' d' t' s' p' q', atK 10 (isV (.int .i64 k1))]) (herD [atK 0 (isV (.agg #[.int .i64 l, .int .i64 a, .int .i64 d, .int .i64 t, .int .i64 s, .int .i64 p, .slice (some ⟨g1, 0, none⟩) q.length q.length])), atK 1 (isV (.agg #[.int .i64 zk, .int .i64 zp, .int .i64 zd, .int .i64 zi, .int .i64 zq, .int .i64 zr])), atK 2 (isV (.agg #[.int .i64 zk, .int .i64 zp, .int .i64 zd, .int .i64 zi, .int .i64 zq, .int .i64 zr])), atK 3 (isV (.bool rn)), atK 4 (isRes W3.heap.size l' a' d' t' s' p' q' [.int .i64 k1]), atK 5 (isRes W3.heap.size l' a' d' t' s' p' q' [.int .i64 k1]), atK 6 (isOwn W3.heap.size l' a' d' t' s' p' q'), atK 7 (isV (.int .i64 k1)), atK 8 (isNew W3.heap.size), storeQ W3.heap.size 9 8 l' a' d' t' s' p' q', atK 10 (isV (.int .i64 k1))]) (by kernel_rfl) (by kernel_rfl) (by kernel_rfl) (Below.refl _ _).drew ?steps ?fin
    case steps =>
      refine PjSteps.cons ?s0 (PjSteps.cons ?s1 (PjSteps.cons ?s2 (PjSteps.cons ?s3 (PjSteps.cons ?s4 (PjSteps.cons ?s5 (PjSteps.cons ?s6 (PjSteps.cons ?s7 (PjSteps.cons ?s8 (PjSteps.cons ?s9 (PjSteps.cons ?s10 (PjSteps.nil)))))))))))
      case s0 =>
        intro v f a X hat hS hv hnk hcl haf K hK
        have ev := hat.old 10 (fun k hk => absurd (List.mem_of_getElem? hk) (by decide))
        obtain ⟨tm, df⟩ := a
        have c0 := cell_of_row X w2.heap.size 0 _ _ _ (blk_bel HB1.out hS)
        have c1 := cell_of_row X w2.heap.size 1 _ _ _ (blk_bel HB1.out hS)
        have c2 := cell_of_row X w2.heap.size 2 _ _ _ (blk_bel HB1.out hS)
        have c3 := cell_of_row X w2.heap.size 3 _ _ _ (blk_bel HB1.out hS)
        have c4 := cell_of_row X w2.heap.size 4 _ _ _ (blk_bel HB1.out hS)
        have c5 := cell_of_row X w2.heap.size 5 _ _ _ (blk_bel HB1.out hS)
        have c6 := cell_of_row X w2.heap.size 6 _ _ _ (blk_bel HB1.out hS)
        go_simp
        exact hK.out _ _ (herQ_at rfl (show _ = _ from rfl)) (herQ_same hv hnk hcl _) hS
      case s1 =>
        intro v f a X hat hS hv hnk hcl haf K hK
        have ev := hat.old 4 (fun k hk => absurd (List.mem_of_getElem? hk) (by decide))
        obtain ⟨tm, df⟩ := a
        have c0 := cell_of_row X (w.heap.size + 1) 0 _ _ _ (blk_bel HX.out.box2 hS)
        have c1 := cell_of_row X (w.heap.size + 1) 1 _ _ _ (blk_bel HX.out.box2 hS)
        have c2 := cell_of_row X (w.heap.size + 1) 2 _ _ _ (blk_bel HX.out.box2 hS)
        have c3 := cell_of_row X (w.heap.size + 1) 3 _ _ _ (blk_bel HX.out.box2 hS)
        have c4 := cell_of_row X (w.heap.size + 1) 4 _ _ _ (blk_bel HX.out.box2 hS)
        have c5 := cell_of_row X (w.heap.size + 1) 5 _ _ _ (blk_bel HX.out.box2 hS)
        go_simp
        exact hK.out _ _ (herQ_at rfl (show _ = _ from rfl)) (herQ_same hv hnk hcl _) hS
      case s2 =>
        intro v f a X hat hS hv hnk hcl haf K hK
        have f0 := ph_haf haf 1 (by kernel_rfl)
        have ev0 := hat.done 1 36 f0 rfl
        have h0 := hv 1 f0
        rw [show v 1 = _ from h0] at ev0
        obtain ⟨tm, df⟩ := a
        go_simp
        refine Calls.mono (HTT.out _) ?_
        rintro e Y ⟨rfl, hb⟩
        exact hK.out _ _ (herQ_at rfl (show _ = _ from rfl)) (herQ_keep hv hnk hcl hb _) (hS.trans (hb.mono hS.size))
      case s3 =>
        intro v f a X hat hS hv hnk hcl haf K hK
        have ev := hat.old 2 (fun k hk => absurd (List.mem_of_getElem? hk) (by decide))
        obtain ⟨tm, df⟩ := a
        go_simp
        exact hK.out _ _ (herQ_at rfl (show _ = _ from rfl)) (herQ_same hv hnk hcl _) hS
      case s4 =>
        intro v f a X hat hS hv hnk hcl haf K hK
        have f0 := ph_haf haf 0 (by kernel_rfl)
        have ev0 := hat.done 0 35 f0 rfl
        have h0 := hv 0 f0
        rw [show v 0 = _ from h0] at ev0
        have f1 := ph_haf haf 2 (by kernel_rfl)
        have ev1 := hat.done 2 37 f1 rfl
        have h1 := hv 2 f1
        rw [show v 2 = _ from h1] at ev1
        have f2 := ph_haf haf 3 (by kernel_rfl)
        have ev2 := hat.done 3 38 f2 rfl
        have h2 := hv 3 f2
        rw [show v 3 = _ from h2] at ev2
        obtain ⟨tm, df⟩ := a
        go_simp
        refine Calls.mono (HI.out (some ⟨g1, 0, none⟩) q.length _ ((lies_own HO1.out).below hS (Nat.le_refl _))) ?_
        rintro e Y ⟨b9, c9, rfl, ho, hb⟩
        exact hK.out _ _ (herQ_at rfl (⟨b9, c9, rfl, own_base ho hS.size⟩)) (herQ_keep hv hnk hcl hb _) (hS.trans (hb.mono hS.size))
      case s5 =>
        intro v f a X hat hS hv hnk hcl haf K hK
        have f0 := ph_haf haf 4 (by kernel_rfl)
        have ev0 := hat.done 4 39 f0 rfl
        obtain ⟨b0, c0, h0, o0⟩ := hv 4 f0
        rw [h0] at ev0
        obtain ⟨tm, df⟩ := a
        go_simp
        exact hK.out _ _ (herQ_at rfl (⟨b0, c0, rfl, o0⟩)) (herQ_same hv hnk hcl _) hS
      case s6 =>
        intro v f a X hat hS hv hnk hcl haf K hK
        have f0 := ph_haf haf 5 (by kernel_rfl)
        have ev0 := hat.done 5 34 f0 rfl
        obtain ⟨b0, c0, h0, o0⟩ := hv 5 f0
        rw [h0] at ev0
        obtain ⟨tm, df⟩ := a
        go_simp
        exact hK.out _ _ (herQ_at rfl (⟨b0, c0, rfl, o0⟩)) (herQ_same hv hnk hcl _) hS
      case s7 =>
        intro v f a X hat hS hv hnk hcl haf K hK
        have f0 := ph_haf haf 5 (by kernel_rfl)
        have ev0 := hat.done 5 34 f0 rfl
        obtain ⟨b0, c0, h0, o0⟩ := hv 5 f0
        rw [h0] at ev0
        obtain ⟨tm, df⟩ := a
        go_simp
        exact hK.out _ _ (herQ_at rfl (show _ = _ from rfl)) (herQ_same hv hnk hcl _) hS
      case s8 =>
        intro v f a X hat hS hv hnk hcl haf K hK
        obtain ⟨tm, df⟩ := a
        go_simp
        exact hK.out _ _ (herQ_at rfl ⟨X.heap.size, rfl, hS.size, _, _, _, _, _, _, _, heap_alloc_new X _⟩) (herQ_keep hv hnk hcl (dbox X _) _) (hS.trans ((dbox X _).mono hS.size))
      case s9 =>
        intro v f a X hat hS hv hnk hcl haf K hK
        have f0 := ph_haf haf 8 (by kernel_rfl)
        have ev0 := hat.done 8 11 f0 rfl
        obtain ⟨gn0, h0, hB0, x0, x1, x2, x3, x4, x5, x6, hbx0⟩ := hv 8 f0
        rw [h0] at ev0
        have f1 := ph_haf haf 6 (by kernel_rfl)
        have ev1 := hat.done 6 40 f1 rfl
        obtain ⟨b1, c1, h1, o1⟩ := hv 6 f1
        rw [h1] at ev1
        obtain ⟨tm, df⟩ := a
        have e0 := cell_of_row X gn0 0 _ _ _ hbx0
        have z0 := frozen_of_row X gn0 0 _ _ hbx0
        have e1 := cell_of_row X gn0 1 _ _ _ hbx0
        have z1 := frozen_of_row X gn0 1 _ _ hbx0
        have e2 := cell_of_row X gn0 2 _ _ _ hbx0
        have z2 := frozen_of_row X gn0 2 _ _ hbx0
        have e3 := cell_of_row X gn0 3 _ _ _ hbx0
        have z3 := frozen_of_row X gn0 3 _ _ hbx0
        have e4 := cell_of_row X gn0 4 _ _ _ hbx0
        have z4 := frozen_of_row X gn0 4 _ _ hbx0
        have e5 := cell_of_row X gn0 5 _ _ _ hbx0
        have z5 := frozen_of_row X gn0 5 _ _ hbx0
        have e6 := cell_of_row X gn0 6 _ _ _ hbx0
        have z6 := frozen_of_row X gn0 6 _ _ hbx0
        go_simp
        refine hK.out undef _ ?h1 ?h2 (ev_bel7 hS (by omega) _ _ _ _ _ _ _)
        case h1 => exact ⟨gn0, b1, c1, (phU_ne (by decide)).trans h0, hB0, st7_box hbx0 _ _ _ _ _ _ _, st7_own o1 (own_ne o1 hbx0 (by decide)) _ _ _ _ _ _ _⟩
        case h2 =>
          intro j hj
          have hq := herQ_same hv hnk hcl undef j hj
          rcases j with _ | _ | _ | _ | _ | _ | _ | _ | _ | _ | _ | _
          · show (_ : Value) = _
            exact hq
          · show (_ : Value) = _
            exact hq
          · show (_ : Value) = _
            exact hq
          · show (_ : Value) = _
            exact hq
          · exact let ⟨b, c, h1, h2⟩ := hq; ⟨b, c, h1, st7_own h2 (own_ne h2 hbx0 (by decide)) _ _ _ _ _ _ _⟩
          · exact let ⟨b, c, h1, h2⟩ := hq; ⟨b, c, h1, st7_own h2 (own_ne h2 hbx0 (by decide)) _ _ _ _ _ _ _⟩
          · exact let ⟨b, c, h1, h2⟩ := hq; ⟨b, c, h1, st7_own h2 (own_ne h2 hbx0 (by decide)) _ _ _ _ _ _ _⟩
          · show (_ : Value) = _
            exact hq
          · obtain ⟨g', h1, h2, y0, y1, y2, y3, y4, y5, y6, h3⟩ := hq
            obtain rfl : g' = gn0 := by
              have := h1.symm.trans ((phU_ne (by decide)).trans h0)
              simpa using this
            exact ⟨g', h1, h2, _, _, _, _, _, _, _, st7_box h3 _ _ _ _ _ _ _⟩
          · exact absurd hj (by rw [hnk]; decide)
          · show (_ : Value) = _
            exact hq
          · trivial
      case s10 =>
        intro v f a X hat hS hv hnk hcl haf K hK
        have f0 := ph_haf haf 7 (by kernel_rfl)
        have ev0 := hat.done 7 41 f0 rfl
        have h0 := hv 7 f0
        rw [show v 7 = _ from h0] at ev0
        obtain ⟨tm, df⟩ := a
        go_simp
        exact hK.out _ _ (herQ_at rfl (show _ = _ from rfl)) (herQ_same hv hnk hcl _) hS
    case fin =>
      intro v X hX hv
      obtain ⟨g, bR, cR, hg, hBg, hbx, ho⟩ := hv 9 (by decide)
      have r0 := hv 10 (by decide)
      simp only [pjAll, Act.put, List.setIfInBounds_toArray, List.set_cons_zero, List.set_cons_succ]
      rw [show v 8 = _ from hg, show v 10 = _ from r0]
      simp only [phTail, List.drop_succ_cons, List.drop_zero]
      go_wp2_with fail
      go_meet
      exact ⟨g, bR, cR, rfl, rfl, Lib.hid ⟨⟨HX.out.to hX, blk_bel HB8.out hX, blk_bel HB1.out hX, hbx, own_base (own_bl HO8.out hX) (by omega), own_base (own_bl HO1.out hX) (by omega), own_base ho (by omega)⟩, ho, hBg⟩⟩
  case rest =>
  obtain ⟨g11, b11, c11, rfl, rfl, hc⟩ := hcut
  have HE := Lib.hid hc.out.1
  have D8 := Lib.hid (ob_ne HO8.out hc.out.2.1 (Nat.le_refl _))
  have D1 := Lib.hid (ob_ne HO1.out hc.out.2.1 (Nat.le_refl _))
  have D1' := Lib.hid (ob_ne' HO1.out hc.out.2.1 (Nat.le_refl _))
  have hg11 := hc.out.2.2
  clear hc HX HB8 HO8 HB1 HO1 HOC HO8' HO1'
  have nk1 : (k1 != k1) = false := by simp
  have c0 := cell_of_row wc g11 0 _ _ _ HE.out.b11
  have c1 := cell_of_row wc g11 1 _ _ _ HE.out.b11
  have c2 := cell_of_row wc g11 2 _ _ _ HE.out.b11
  have c3 := cell_of_row wc g11 3 _ _ _ HE.out.b11
  have c4 := cell_of_row wc g11 4 _ _ _ HE.out.b11
  have c5 := cell_of_row wc g11 5 _ _ _ HE.out.b11
  have c6 := cell_of_row wc g11 6 _ _ _ HE.out.b11
  have d0 := cell_of_row wc g8 0 _ _ _ HE.out.b8
  have d1 := cell_of_row wc g8 1 _ _ _ HE.out.b8
  have d2 := cell_of_row wc g8 2 _ _ _ HE.out.b8
  have d3 := cell_of_row wc g8 3 _ _ _ HE.out.b8
  have d4 := cell_of_row wc g8 4 _ _ _ HE.out.b8
  have d5 := cell_of_row wc g8 5 _ _ _ HE.out.b8
  have d6 := cell_of_row wc g8 6 _ _ _ HE.out.b8
  go_wp2_with fail
  refine Calls.mono (HEQ'.out b11 b8 c11 c8 _ (lies_own HE.out.o11) (lies_own HE.out.o8)) ?_
  rintro e w4 ⟨rfl, hb⟩
  have HE := Lib.hid (HE.out.to hb)
  clear hb
  clear c0 c1 c2 c3 c4 c5 c6 d0 d1 d2 d3 d4 d5 d6
  go_upto_region 10 with (fail)
  go_cut [55] (fun s55 wx => s55 = .bool false ∧ Hid (EvW w (.cells #[.int .i64 l, .int .i64 a, .int .i64 d, .int .i64 t, .int .i64 s, .int .i64 p, .slice b q.length c] 29) (.cells #[.int .i64 zk, .int .i64 zp, .int .i64 zd, .int .i64 zi, .int .i64 zq, .int .i64 zr] 31) g8 w2.heap.size g11 #[.int .i64 l', .int .i64 a', .int .i64 d', .int .i64 t', .int .i64 s', .int .i64 p', .slice b8 q'.length c8] #[.int .i64 l, .int .i64 a, .int .i64 d, .int .i64 t, .int .i64 s, .int .i64 p, .slice (some ⟨g1, 0, none⟩) q.length q.length] #[.int .i64 l', .int .i64 a', .int .i64 d', .int .i64 t', .int .i64 s', .int .i64 p', .slice b11 q'.length c11] (.slice b8 q'.length c8) (.slice (some ⟨g1, 0, none⟩) q.length q.length) (.slice b11 q'.length c11) q'.length q.length q'.length (kC q') (kC q) (kC q') wx))
  case first =>
    refine wp_region_phi 4 [51, 52, 53, 54] (fun X => Below w4.heap.size w4 X) (herL [isV (.agg #[.int .i64 l, .int .i64 a, .int .i64 d, .int .i64 t, .int .i64 s, .int .i64 p, .slice (some ⟨g1, 0, none⟩) q.length q.length]), isV (.agg #[.int .i64 l, .int .i64 a, .int .i64 d, .int .i64 t, .int .i64 s, .int .i64 p, .slice b q.length c]), isSrc l a d t s p q, isV (.bool true)]) (by kernel_rfl) (by kernel_rfl) (by kernel_rfl) (herL_keep _) (fun X Y h hb => h.trans (hb.mono h.size)) ((Below.refl _ _).drew) ?steps ?fin
    case steps =>
      refine PhSteps.cons ?s0 (PhSteps.cons ?s1 (PhSteps.cons ?s2 (PhSteps.cons ?s3 (PhSteps.nil))))
      case s0 =>
        intro v f a X hat hS hv haf K hK
        have ev := hat.old 10 (fun k hk => absurd (List.mem_of_getElem? hk) (by decide))
        obtain ⟨tm, df⟩ := a
        have c0 := cell_of_row X w2.heap.size 0 _ _ _ (blk_bel HE.out.b1 hS)
        have c1 := cell_of_row X w2.heap.size 1 _ _ _ (blk_bel HE.out.b1 hS)
        have c2 := cell_of_row X w2.heap.size 2 _ _ _ (blk_bel HE.out.b1 hS)
        have c3 := cell_of_row X w2.heap.size 3 _ _ _ (blk_bel HE.out.b1 hS)
        have c4 := cell_of_row X w2.heap.size 4 _ _ _ (blk_bel HE.out.b1 hS)
        have c5 := cell_of_row X w2.heap.size 5 _ _ _ (blk_bel HE.out.b1 hS)
        have c6 := cell_of_row X w2.heap.size 6 _ _ _ (blk_bel HE.out.b1 hS)
        go_simp
        exact hK.out _ _ (show _ = _ from rfl) (Below.refl _ _)
      case s1 =>
        intro v f a X hat hS hv haf K hK
        have ev := hat.old 3 (fun k hk => absurd (List.mem_of_getElem? hk) (by decide))
        obtain ⟨tm, df⟩ := a
        have c0 := cell_of_row X w.heap.size 0 _ _ _ (blk_bel HE.out.hx.box hS)
        have c1 := cell_of_row X w.heap.size 1 _ _ _ (blk_bel HE.out.hx.box hS)
        have c2 := cell_of_row X w.heap.size 2 _ _ _ (blk_bel HE.out.hx.box hS)
        have c3 := cell_of_row X w.heap.size 3 _ _ _ (blk_bel HE.out.hx.box hS)
        have c4 := cell_of_row X w.heap.size 4 _ _ _ (blk_bel HE.out.hx.box hS)
        have c5 := cell_of_row X w.heap.size 5 _ _ _ (blk_bel HE.out.hx.box hS)
        have c6 := cell_of_row X w.heap.size 6 _ _ _ (blk_bel HE.out.hx.box hS)
        go_simp
        exact hK.out _ _ (show _ = _ from rfl) (Below.refl _ _)
      case s2 =>
        intro v f a X hat hS hv haf K hK
        have f0 := ph_haf haf 1 (by kernel_rfl)
        have ev0 := hat.done 1 52 f0 rfl
        have h0 := hv 1 f0
        rw [show v 1 = _ from h0] at ev0
        obtain ⟨tm, df⟩ := a
        go_simp
        refine Calls.mono (HTS.out b c _ (HZ.out.below (HE.out.hx.bel.trans (hS.mono HE.out.hx.bel.size)) (Nat.le_refl _))) ?_
        rintro e Y ⟨g, rfl, ho, hb⟩
        exact hK.out _ _ (⟨_, _, rfl, lies_own ho, Nat.le_refl _, by intro h; cases h⟩) hb
      case s3 =>
        intro v f a X hat hS hv haf K hK
        have f0 := ph_haf haf 0 (by kernel_rfl)
        have ev0 := hat.done 0 51 f0 rfl
        have h0 := hv 0 f0
        rw [show v 0 = _ from h0] at ev0
        have f1 := ph_haf haf 2 (by kernel_rfl)
        have ev1 := hat.done 2 53 f1 rfl
        obtain ⟨b1, c1, h1, l1, ft1⟩ := hv 2 f1
        rw [h1] at ev1
        obtain ⟨tm, df⟩ := a
        go_simp
        refine Calls.mono (HEQ.out (some ⟨g1, 0, none⟩) b1 q.length c1 _ ((lies_own HE.out.o1).below hS (Nat.le_refl _)) l1) ?_
        rintro e Y ⟨rfl, hb⟩
        exact hK.out _ _ (show _ = _ from rfl) hb
    case fin =>
      intro v X hX hv
      have r0 := hv 3 (by decide)
      simp only [phAll, Act.put, List.setIfInBounds_toArray, List.set_cons_zero, List.set_cons_succ]
      rw [show v 3 = _ from r0]
      simp only [phTail, List.drop_succ_cons, List.drop_zero]
      go_wp2_with fail
      go_meet
      exact ⟨rfl, Lib.hid (HE.out.to hX)⟩
  case rest =>
  obtain ⟨rfl, HE⟩ := hcut
  have c0 := cell_of_row wc w2.heap.size 0 _ _ _ HE.out.b1
  have c1 := cell_of_row wc w2.heap.size 1 _ _ _ HE.out.b1
  have c2 := cell_of_row wc w2.heap.size 2 _ _ _ HE.out.b1
  have c3 := cell_of_row wc w2.heap.size 3 _ _ _ HE.out.b1
  have c4 := cell_of_row wc w2.heap.size 4 _ _ _ HE.out.b1
  have c5 := cell_of_row wc w2.heap.size 5 _ _ _ HE.out.b1
  have c6 := cell_of_row wc w2.heap.size 6 _ _ _ HE.out.b1
  go_wp2_with fail
  refine Calls.mono (HMK.out _ _ _ _ _ HE.out.o1) ?_
  rintro e w5 ⟨rfl, ho, hg⟩
  have HE := Lib.hid (HE.out.m1 ho hg D81.out D1'.out)
  clear ho hg c0 c1 c2 c3 c4 c5 c6
  have nk0 : ¬ ((1 : Int) + q.length < 0) := by omega
  have c0 := cell_of_row w5 g11 0 _ _ _ HE.out.b11
  have c1 := cell_of_row w5 g11 1 _ _ _ HE.out.b11
  have c2 := cell_of_row w5 g11 2 _ _ _ HE.out.b11
  have c3 := cell_of_row w5 g11 3 _ _ _ HE.out.b11
  have c4 := cell_of_row w5 g11 4 _ _ _ HE.out.b11
  have c5 := cell_of_row w5 g11 5 _ _ _ HE.out.b11
  have c6 := cell_of_row w5 g11 6 _ _ _ HE.out.b11
  have d0 := cell_of_row w5 g8 0 _ _ _ HE.out.b8
  have d1 := cell_of_row w5 g8 1 _ _ _ HE.out.b8
  have d2 := cell_of_row w5 g8 2 _ _ _ HE.out.b8
  have d3 := cell_of_row w5 g8 3 _ _ _ HE.out.b8
  have d4 := cell_of_row w5 g8 4 _ _ _ HE.out.b8
  have d5 := cell_of_row w5 g8 5 _ _ _ HE.out.b8
  have d6 := cell_of_row w5 g8 6 _ _ _ HE.out.b8
  go_wp2_with fail
  refine Calls.mono (HEQ'.out b11 b8 c11 c8 _ (lies_own HE.out.o11) (lies_own HE.out.o8)) ?_
  rintro e w6 ⟨rfl, hb⟩
  have HE := Lib.hid (HE.out.to hb)
  clear hb
  clear c0 c1 c2 c3 c4 c5 c6 d0 d1 d2 d3 d4 d5 d6
  have c0 := cell_of_row w6 g11 0 _ _ _ HE.out.b11
  have c1 := cell_of_row w6 g11 1 _ _ _ HE.out.b11
  have c2 := cell_of_row w6 g11 2 _ _ _ HE.out.b11
  have c3 := cell_of_row w6 g11 3 _ _ _ HE.out.b11
  have c4 := cell_of_row w6 g11 4 _ _ _ HE.out.b11
  have c5 := cell_of_row w6 g11 5 _ _ _ HE.out.b11
  have c6 := cell_of_row w6 g11 6 _ _ _ HE.out.b11
  go_wp2_with fail
  refine Calls.mono (HMK'.out _ _ _ _ _ HE.out.o11) ?_
  rintro e w7 ⟨rfl, ho, hg⟩
  have HE := Lib.hid (HE.out.m11 ho hg D8.out D1.out)
  clear ho hg c0 c1 c2 c3 c4 c5 c6
  have nk1 : ¬ ((1 : Int) + q'.length < 0) := by omega
  have nk2 : ((1 : Int) + q'.length != 1 + q'.length) = false := by simp
  have c0 := cell_of_row w7 g11 0 _ _ _ HE.out.b11
  have c1 := cell_of_row w7 g11 1 _ _ _ HE.out.b11
  have c2 := cell_of_row w7 g11 2 _ _ _ HE.out.b11
  have c3 := cell_of_row w7 g11 3 _ _ _ HE.out.b11
  have c4 := cell_of_row w7 g11 4 _ _ _ HE.out.b11
  have c5 := cell_of_row w7 g11 5 _ _ _ HE.out.b11
  have c6 := cell_of_row w7 g11 6 _ _ _ HE.out.b11
  go_wp2_with fail
  refine Calls.mono (HHD'.out _ _ _ (lies_own HE.out.o11)) ?_
  rintro e w8 ⟨rfl, hb⟩
  have HE := Lib.hid (HE.out.to hb)
  clear hb c0 c1 c2 c3 c4 c5 c6
  go_upto_region 24 with (fail)
  have hw8 : g11 < w8.heap.size := (Array.getElem?_eq_some_iff.1 HE.out.b11).1
  go_cut [16, 17] (fun s16 s17 wx => ∃ g16 b16 c16, s16 = .pointer (some ⟨g16, 0, none⟩) ∧ s17 = .int .i64 k1 ∧ Hid (EvW w (.cells #[.int .i64 l, .int .i64 a, .int .i64 d, .int .i64 t, .int .i64 s, .int .i64 p, .slice b q.length c] 29) (.cells #[.int .i64 zk, .int .i64 zp, .int .i64 zd, .int .i64 zi, .int .i64 zq, .int .i64 zr] 31) g8 w2.heap.size g11 #[.int .i64 l', .int .i64 a', .int .i64 d', .int .i64 t', .int .i64 s', .int .i64 p', .slice b8 q'.length c8] #[.int .i64 l, .int .i64 a, .int .i64 d, .int .i64 t, .int .i64 s, .int .i64 p, .slice (some ⟨g1, 0, none⟩) q.length q.length] #[.int .i64 l', .int .i64 a', .int .i64 d', .int .i64 t', .int .i64 s', .int .i64 p', .slice b11 q'.length c11] (.slice b8 q'.length c8) (.slice (some ⟨g1, 0, none⟩) q.length q.length) (.slice b11 q'.length c11) q'.length q.length q'.length (kC q') (kC (marksI 1 q.length)) (kC (marksI 1 q'.length)) wx ∧ wx.heap[g16]? = some (.cells #[.int .i64 l', .int .i64 a', .int .i64 d', .int .i64 t', .int .i64 s', .int .i64 p', .slice b16 q'.length c16] 24) ∧ wx.ownsRow w8.heap.size 3 1 (.slice b16 q'.length c16) q'.length (kC q')))
  case first =>
    refine wp_region_phj 12 [some 84, some 85, some 86, some 87, some 88, some 89, some 83, some 90, some 91, some 16, none, some 17] (fun X => Below w8.heap.size w8 X) (herQ [atK 0 (isV (.agg #[.int .i64 l, .int .i64 a, .int .i64 d, .int .i64 t, .int .i64 s, .int .i64 p, .slice b q.length c])), atK 1 (isOwn w8.heap.size l a d t s p q), atK 2 (isV (.agg #[.int .i64 zk, .int .i64 zp, .int .i64 zd, .int .i64 zi, .int .i64 zq, .int .i64 zr])), atK 3 (isV (.agg #[.int .i64 zk, .int .i64 zp, .int .i64 zd, .int .i64 zi, .int .i64 zq, .int .i64 zr])), atK 4 (isV (.bool rn)), atK 5 (isRes w8.heap.size l' a' d' t' s' p' q' [.int .i64 k1]), atK 6 (isRes w8.heap.size l' a' d' t' s' p' q' [.int .i64 k1]), atK 7 (isOwn w8.heap.size l' a' d' t' s' p' q'), atK 8 (isV (.int .i64 k1)), atK 9 (isNew w8.heap.size), storeQ w8.heap.size 10 9 l' a' d' t' s' p' q', atK 11 (isV (.int .i64 k1))]) (herD [atK 0 (isV (.agg #[.int .i64 l, .int .i64 a, .int .i64 d, .int .i64 t, .int .i64 s, .int .i64 p, .slice b q.length c])), atK 1 (isOwn w8.heap.size l a d t s p q), atK 2 (isV (.agg #[.int .i64 zk, .int .i64 zp, .int .i64 zd, .int .i64 zi, .int .i64 zq, .int .i64 zr])), atK 3 (isV (.agg #[.int .i64 zk, .int .i64 zp, .int .i64 zd, .int .i64 zi, .int .i64 zq, .int .i64 zr])), atK 4 (isV (.bool rn)), atK 5 (isRes w8.heap.size l' a' d' t' s' p' q' [.int .i64 k1]), atK 6 (isRes w8.heap.size l' a' d' t' s' p' q' [.int .i64 k1]), atK 7 (isOwn w8.heap.size l' a' d' t' s' p' q'), atK 8 (isV (.int .i64 k1)), atK 9 (isNew w8.heap.size), storeQ w8.heap.size 10 9 l' a' d' t' s' p' q', atK 11 (isV (.int .i64 k1))]) (by kernel_rfl) (by kernel_rfl) (by kernel_rfl) (Below.refl _ _).drew ?steps ?fin
    case steps =>
      refine PjSteps.cons ?s0 (PjSteps.cons ?s1 (PjSteps.cons ?s2 (PjSteps.cons ?s3 (PjSteps.cons ?s4 (PjSteps.cons ?s5 (PjSteps.cons ?s6 (PjSteps.cons ?s7 (PjSteps.cons ?s8 (PjSteps.cons ?s9 (PjSteps.cons ?s10 (PjSteps.cons ?s11 (PjSteps.nil))))))))))))
      case s0 =>
        intro v f a X hat hS hv hnk hcl haf K hK
        have ev := hat.old 3 (fun k hk => absurd (List.mem_of_getElem? hk) (by decide))
        obtain ⟨tm, df⟩ := a
        have c0 := cell_of_row X w.heap.size 0 _ _ _ (blk_bel HE.out.hx.box hS)
        have c1 := cell_of_row X w.heap.size 1 _ _ _ (blk_bel HE.out.hx.box hS)
        have c2 := cell_of_row X w.heap.size 2 _ _ _ (blk_bel HE.out.hx.box hS)
        have c3 := cell_of_row X w.heap.size 3 _ _ _ (blk_bel HE.out.hx.box hS)
        have c4 := cell_of_row X w.heap.size 4 _ _ _ (blk_bel HE.out.hx.box hS)
        have c5 := cell_of_row X w.heap.size 5 _ _ _ (blk_bel HE.out.hx.box hS)
        have c6 := cell_of_row X w.heap.size 6 _ _ _ (blk_bel HE.out.hx.box hS)
        go_simp
        exact hK.out _ _ (herQ_at rfl (show _ = _ from rfl)) (herQ_same hv hnk hcl _) hS
      case s1 =>
        intro v f a X hat hS hv hnk hcl haf K hK
        have f0 := ph_haf haf 0 (by kernel_rfl)
        have ev0 := hat.done 0 84 f0 rfl
        have h0 := hv 0 f0
        rw [show v 0 = _ from h0] at ev0
        obtain ⟨tm, df⟩ := a
        go_simp
        refine Calls.mono (HTS.out b c _ (HZ.out.below (HE.out.hx.bel.trans (hS.mono HE.out.hx.bel.size)) (Nat.le_refl _))) ?_
        rintro e Y ⟨g, rfl, ho, hb⟩
        exact hK.out _ _ (herQ_at rfl (⟨_, _, rfl, own_base ho hS.size⟩)) (herQ_keep hv hnk hcl hb _) (hS.trans (hb.mono hS.size))
      case s2 =>
        intro v f a X hat hS hv hnk hcl haf K hK
        have ev := hat.old 4 (fun k hk => absurd (List.mem_of_getElem? hk) (by decide))
        obtain ⟨tm, df⟩ := a
        have c0 := cell_of_row X (w.heap.size + 1) 0 _ _ _ (blk_bel HE.out.hx.box2 hS)
        have c1 := cell_of_row X (w.heap.size + 1) 1 _ _ _ (blk_bel HE.out.hx.box2 hS)
        have c2 := cell_of_row X (w.heap.size + 1) 2 _ _ _ (blk_bel HE.out.hx.box2 hS)
        have c3 := cell_of_row X (w.heap.size + 1) 3 _ _ _ (blk_bel HE.out.hx.box2 hS)
        have c4 := cell_of_row X (w.heap.size + 1) 4 _ _ _ (blk_bel HE.out.hx.box2 hS)
        have c5 := cell_of_row X (w.heap.size + 1) 5 _ _ _ (blk_bel HE.out.hx.box2 hS)
        go_simp
        exact hK.out _ _ (herQ_at rfl (show _ = _ from rfl)) (herQ_same hv hnk hcl _) hS
      case s3 =>
        intro v f a X hat hS hv hnk hcl haf K hK
        have f0 := ph_haf haf 2 (by kernel_rfl)
        have ev0 := hat.done 2 86 f0 rfl
        have h0 := hv 2 f0
        rw [show v 2 = _ from h0] at ev0
        obtain ⟨tm, df⟩ := a
        go_simp
        refine Calls.mono (HTT.out _) ?_
        rintro e Y ⟨rfl, hb⟩
        exact hK.out _ _ (herQ_at rfl (show _ = _ from rfl)) (herQ_keep hv hnk hcl hb _) (hS.trans (hb.mono hS.size))
      case s4 =>
        intro v f a X hat hS hv hnk hcl haf K hK
        have ev := hat.old 2 (fun k hk => absurd (List.mem_of_getElem? hk) (by decide))
        obtain ⟨tm, df⟩ := a
        go_simp
        exact hK.out _ _ (herQ_at rfl (show _ = _ from rfl)) (herQ_same hv hnk hcl _) hS
      case s5 =>
        intro v f a X hat hS hv hnk hcl haf K hK
        have f0 := ph_haf haf 1 (by kernel_rfl)
        have ev0 := hat.done 1 85 f0 rfl
        obtain ⟨b0, c0, h0, o0⟩ := hv 1 f0
        rw [h0] at ev0
        have f1 := ph_haf haf 3 (by kernel_rfl)
        have ev1 := hat.done 3 87 f1 rfl
        have h1 := hv 3 f1
        rw [show v 3 = _ from h1] at ev1
        have f2 := ph_haf haf 4 (by kernel_rfl)
        have ev2 := hat.done 4 88 f2 rfl
        have h2 := hv 4 f2
        rw [show v 4 = _ from h2] at ev2
        obtain ⟨tm, df⟩ := a
        go_simp
        refine Calls.mono (HI.out b0 c0 _ (lies_own o0)) ?_
        rintro e Y ⟨b9, c9, rfl, ho, hb⟩
        exact hK.out _ _ (herQ_at rfl (⟨b9, c9, rfl, own_base ho hS.size⟩)) (herQ_keep hv hnk hcl hb _) (hS.trans (hb.mono hS.size))
      case s6 =>
        intro v f a X hat hS hv hnk hcl haf K hK
        have f0 := ph_haf haf 5 (by kernel_rfl)
        have ev0 := hat.done 5 89 f0 rfl
        obtain ⟨b0, c0, h0, o0⟩ := hv 5 f0
        rw [h0] at ev0
        obtain ⟨tm, df⟩ := a
        go_simp
        exact hK.out _ _ (herQ_at rfl (⟨b0, c0, rfl, o0⟩)) (herQ_same hv hnk hcl _) hS
      case s7 =>
        intro v f a X hat hS hv hnk hcl haf K hK
        have f0 := ph_haf haf 6 (by kernel_rfl)
        have ev0 := hat.done 6 83 f0 rfl
        obtain ⟨b0, c0, h0, o0⟩ := hv 6 f0
        rw [h0] at ev0
        obtain ⟨tm, df⟩ := a
        go_simp
        exact hK.out _ _ (herQ_at rfl (⟨b0, c0, rfl, o0⟩)) (herQ_same hv hnk hcl _) hS
      case s8 =>
        intro v f a X hat hS hv hnk hcl haf K hK
        have f0 := ph_haf haf 6 (by kernel_rfl)
        have ev0 := hat.done 6 83 f0 rfl
        obtain ⟨b0, c0, h0, o0⟩ := hv 6 f0
        rw [h0] at ev0
        obtain ⟨tm, df⟩ := a
        go_simp
        exact hK.out _ _ (herQ_at rfl (show _ = _ from rfl)) (herQ_same hv hnk hcl _) hS
      case s9 =>
        intro v f a X hat hS hv hnk hcl haf K hK
        obtain ⟨tm, df⟩ := a
        go_simp
        exact hK.out _ _ (herQ_at rfl ⟨X.heap.size, rfl, hS.size, _, _, _, _, _, _, _, heap_alloc_new X _⟩) (herQ_keep hv hnk hcl (dbox X _) _) (hS.trans ((dbox X _).mono hS.size))
      case s10 =>
        intro v f a X hat hS hv hnk hcl haf K hK
        have f0 := ph_haf haf 9 (by kernel_rfl)
        have ev0 := hat.done 9 16 f0 rfl
        obtain ⟨gn0, h0, hB0, x0, x1, x2, x3, x4, x5, x6, hbx0⟩ := hv 9 f0
        rw [h0] at ev0
        have f1 := ph_haf haf 7 (by kernel_rfl)
        have ev1 := hat.done 7 90 f1 rfl
        obtain ⟨b1, c1, h1, o1⟩ := hv 7 f1
        rw [h1] at ev1
        obtain ⟨tm, df⟩ := a
        have e0 := cell_of_row X gn0 0 _ _ _ hbx0
        have z0 := frozen_of_row X gn0 0 _ _ hbx0
        have e1 := cell_of_row X gn0 1 _ _ _ hbx0
        have z1 := frozen_of_row X gn0 1 _ _ hbx0
        have e2 := cell_of_row X gn0 2 _ _ _ hbx0
        have z2 := frozen_of_row X gn0 2 _ _ hbx0
        have e3 := cell_of_row X gn0 3 _ _ _ hbx0
        have z3 := frozen_of_row X gn0 3 _ _ hbx0
        have e4 := cell_of_row X gn0 4 _ _ _ hbx0
        have z4 := frozen_of_row X gn0 4 _ _ hbx0
        have e5 := cell_of_row X gn0 5 _ _ _ hbx0
        have z5 := frozen_of_row X gn0 5 _ _ hbx0
        have e6 := cell_of_row X gn0 6 _ _ _ hbx0
        have z6 := frozen_of_row X gn0 6 _ _ hbx0
        go_simp
        refine hK.out undef _ ?h1 ?h2 (ev_bel7 hS (by omega) _ _ _ _ _ _ _)
        case h1 => exact ⟨gn0, b1, c1, (phU_ne (by decide)).trans h0, hB0, st7_box hbx0 _ _ _ _ _ _ _, st7_own o1 (own_ne o1 hbx0 (by decide)) _ _ _ _ _ _ _⟩
        case h2 =>
          intro j hj
          have hq := herQ_same hv hnk hcl undef j hj
          rcases j with _ | _ | _ | _ | _ | _ | _ | _ | _ | _ | _ | _ | _
          · show (_ : Value) = _
            exact hq
          · exact let ⟨b, c, h1, h2⟩ := hq; ⟨b, c, h1, st7_own h2 (own_ne h2 hbx0 (by decide)) _ _ _ _ _ _ _⟩
          · show (_ : Value) = _
            exact hq
          · show (_ : Value) = _
            exact hq
          · show (_ : Value) = _
            exact hq
          · exact let ⟨b, c, h1, h2⟩ := hq; ⟨b, c, h1, st7_own h2 (own_ne h2 hbx0 (by decide)) _ _ _ _ _ _ _⟩
          · exact let ⟨b, c, h1, h2⟩ := hq; ⟨b, c, h1, st7_own h2 (own_ne h2 hbx0 (by decide)) _ _ _ _ _ _ _⟩
          · exact let ⟨b, c, h1, h2⟩ := hq; ⟨b, c, h1, st7_own h2 (own_ne h2 hbx0 (by decide)) _ _ _ _ _ _ _⟩
          · show (_ : Value) = _
            exact hq
          · obtain ⟨g', h1, h2, y0, y1, y2, y3, y4, y5, y6, h3⟩ := hq
            obtain rfl : g' = gn0 := by
              have := h1.symm.trans ((phU_ne (by decide)).trans h0)
              simpa using this
            exact ⟨g', h1, h2, _, _, _, _, _, _, _, st7_box h3 _ _ _ _ _ _ _⟩
          · exact absurd hj (by rw [hnk]; decide)
          · show (_ : Value) = _
            exact hq
          · trivial
      case s11 =>
        intro v f a X hat hS hv hnk hcl haf K hK
        have f0 := ph_haf haf 8 (by kernel_rfl)
        have ev0 := hat.done 8 91 f0 rfl
        have h0 := hv 8 f0
        rw [show v 8 = _ from h0] at ev0
        obtain ⟨tm, df⟩ := a
        go_simp
        exact hK.out _ _ (herQ_at rfl (show _ = _ from rfl)) (herQ_same hv hnk hcl _) hS
    case fin =>
      intro v X hX hv
      obtain ⟨g, bR, cR, hg, hBg, hbx, ho⟩ := hv 10 (by decide)
      have r0 := hv 11 (by decide)
      simp only [pjAll, Act.put, List.setIfInBounds_toArray, List.set_cons_zero, List.set_cons_succ]
      rw [show v 9 = _ from hg, show v 11 = _ from r0]
      simp only [phTail, List.drop_succ_cons, List.drop_zero]
      go_wp2_with fail
      go_meet
      exact ⟨g, bR, cR, rfl, rfl, Lib.hid ⟨HE.out.to hX, hbx, ho⟩⟩
  case rest =>
  obtain ⟨g16, b16, c16, rfl, rfl, hc⟩ := hcut
  have HE := Lib.hid hc.out.1
  have HB16 := Lib.hid hc.out.2.1
  have HO16 := Lib.hid hc.out.2.2
  clear hc
  have c0 := cell_of_row wc g16 0 _ _ _ HB16.out
  have c1 := cell_of_row wc g16 1 _ _ _ HB16.out
  have c2 := cell_of_row wc g16 2 _ _ _ HB16.out
  have c3 := cell_of_row wc g16 3 _ _ _ HB16.out
  have c4 := cell_of_row wc g16 4 _ _ _ HB16.out
  have c5 := cell_of_row wc g16 5 _ _ _ HB16.out
  have c6 := cell_of_row wc g16 6 _ _ _ HB16.out
  have d0 := cell_of_row wc g8 0 _ _ _ HE.out.b8
  have d1 := cell_of_row wc g8 1 _ _ _ HE.out.b8
  have d2 := cell_of_row wc g8 2 _ _ _ HE.out.b8
  have d3 := cell_of_row wc g8 3 _ _ _ HE.out.b8
  have d4 := cell_of_row wc g8 4 _ _ _ HE.out.b8
  have d5 := cell_of_row wc g8 5 _ _ _ HE.out.b8
  have d6 := cell_of_row wc g8 6 _ _ _ HE.out.b8
  go_wp2_with fail
  refine Calls.mono (HEQ'.out b16 b8 c16 c8 _ (lies_own HO16.out) (lies_own HE.out.o8)) ?_
  rintro e w9 ⟨rfl, hb⟩
  have HE := Lib.hid (HE.out.to hb)
  clear hb
  clear c0 c1 c2 c3 c4 c5 c6 d0 d1 d2 d3 d4 d5 d6
  have c0 := cell_of_row w9 g11 0 _ _ _ HE.out.b11
  have c1 := cell_of_row w9 g11 1 _ _ _ HE.out.b11
  have c2 := cell_of_row w9 g11 2 _ _ _ HE.out.b11
  have c3 := cell_of_row w9 g11 3 _ _ _ HE.out.b11
  have c4 := cell_of_row w9 g11 4 _ _ _ HE.out.b11
  have c5 := cell_of_row w9 g11 5 _ _ _ HE.out.b11
  have c6 := cell_of_row w9 g11 6 _ _ _ HE.out.b11
  go_wp2_with fail
  refine Calls.mono (HHD'.out _ _ _ (lies_own HE.out.o11)) ?_
  rintro e w10 ⟨rfl, hb⟩
  have HE := Lib.hid (HE.out.to hb)
  clear hb c0 c1 c2 c3 c4 c5 c6
  go_wp2
  go_ret
  exact ⟨rfl, HE.out.hx.bel⟩
theorem FnExactDropEvents_came (cs ds : Array Value) (rn : Bool) (W : World) (h : Came Try.prog W 29 cs.toList) (g : Came Try.prog W 31 ds.toList) : Calls Try.prog 7 #[.agg cs, .agg ds, .bool rn] W fun e w' => e = .returned (.bool true) ∧ Below W.heap.size W w' := by
  obtain ⟨x, b, c, e, hz, hm⟩ := came_src h
  obtain ⟨z, e'⟩ := came_tsk g
  rw [e, e']
  exact FnExactDropEvents_walk x.l x.a x.d x.t x.s x.p x.q z.k z.p z.d z.i z.q z.r rn b c hm W hz
end Go.Proofs.Ytgbnoaclklbjbaa
