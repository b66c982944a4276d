/- Drawn inputs: rows of eight booleans. (Written by tools/gen_rid.py.) -/
import Derived.Test.YtgbnoaclklbjbaaRis
import Derived.Test.YtgbnoaclklbjbaaAt
import Derived.Deep.DeepCutAuto
namespace Go.Proofs.Ytgbnoaclklbjbaa
open Go.ChangeShapes Go.WideShapes Go.ChangeAt Go.RowKit
set_option linter.unusedVariables false
theorem nd_cells (w : World) (us : List Value) (t : TypeId) : ∀ (j : Nat) u, us[j]? = some u → (w.alloc (.cells us.toArray t)).cell? ((⟨w.heap.size, 0, none⟩ : Addr).add j) = some u := by
  intro j u hj
  have h := cell_of_row _ w.heap.size j _ _ _ (heap_alloc_new w (.cells us.toArray t))
  have e : (⟨w.heap.size, 0, none⟩ : Addr).add j = ⟨w.heap.size, j, none⟩ := by
    unfold Addr.add
    split
    · rename_i h0; rw [h0]
    · simp
  rw [e, h]
  simpa using hj
def BoolsPost (n : Nat) (w : World) (e : Ending) (w' : World) : Prop := ∃ a c, e = .returned (.slice a n c) ∧ w'.ownsRow w.heap.size 4 1 (.slice a n c) n (flat bI (List.replicate n false)) ∧ Below w.heap.size w w'
theorem rep_snoc (n : Nat) : flat bI (List.replicate n false) ++ [.bool false] = flat bI (List.replicate (n + 1) false) := by
  rw [List.replicate_succ', flat_snoc]
  rfl
theorem l06Bools_any (n : Nat) (hn : n ≤ 100) (w : World) : Calls Try.prog 70 #[.int .i64 n] w (BoolsPost n w) := by
  obtain ⟨i1, hi, hz0, hz1, hz2⟩ := info_parts (show (Try.prog.info? 4).map (fun i => (i.zero, i.size, i.bytes)) = some (some (.bool false), 1, 1) by kernel_rfl)
  have HJ := Lib.hid (And.intro hi (And.intro hz0 (And.intro hz1 hz2)))
  clear hi hz0 hz1 hz2
  have HR0 : Hid ((w.alloc (.cells #[] 4)).ownsRow w.heap.size 4 1 (.slice (some ⟨w.heap.size, 0, none⟩) 0 0) 0 (flat bI (List.replicate 0 false))) := Lib.hid (World.ownsRow_lit (base := w.heap.size) (e := 4) (size := 1) w #[] 0 (Nat.le_refl _) (Nat.zero_le _) rfl)
  have HB0 := Lib.hid ((Below.refl w.heap.size w).alloc (Nat.le_refl _) (.cells #[] 4))
  have HS := Lib.hid rep_snoc
  have HP : Hid (∀ a c w', w'.ownsRow w.heap.size 4 1 (.slice a n c) n (flat bI (List.replicate n false)) → Below w.heap.size w w' → BoolsPost n w (.returned (.slice a n c)) w') := Lib.hid (fun a c w' h1 h2 => ⟨a, c, rfl, h1, h2⟩)
  generalize BoolsPost n w = POST at *
  go_enter Try.func70, Try.ntmps70
  go_wp2
  go_loopw [3, 4] (fun s i wr => ∃ (k : Nat) (a : Option Addr) (c : Nat), k ≤ n ∧ i = .int .i64 k ∧ s = .slice a k c ∧ Hid (wr.ownsRow w.heap.size 4 1 (.slice a k c) k (flat bI (List.replicate k false))) ∧ Hid (Below w.heap.size w wr)) (fun _ i _ => n - (intOf i).toNat)
  case atStart => exact ⟨0, _, _, Nat.zero_le _, rfl, rfl, HR0, HB0⟩
  case round =>
    obtain ⟨k, a, c, hk, rfl, rfl, ho, hb⟩ := hrel
    by_cases hlt : k < n
    · have HX := Lib.hid (HS.out k)
      have hBr := hb.out.size
      go_wp2_with (at_builtin; go_must (refine wpList_append_own _ rfl (.tmp 11) (.tmp 12) _ rfl w.heap.size 4 i1 _ 1 1 Try.underlying45 HJ.out.1 HJ.out.2.1 HJ.out.2.2.1 HJ.out.2.2.2 rfl (by decide) (.slice a k c) k (flat bI (List.replicate k false)) rfl (ho.out.alloc _) ⟨wr.heap.size, 0, none⟩ 1 1 [.bool false] rfl rfl (nd_cells wr [.bool false] 4) (by simp [Value.oneCell']) (by unfold maxLen; omega) (by omega) (by simp; omega) ?_); intro v' w' g1 g2 _; obtain ⟨a', c', rfl⟩ := wk_slice g1; have G1 := Lib.hid g1; have G2 := Lib.hid ((hb.out.alloc hBr (.cells #[.bool false] 4)).grown g2 (by simp; omega) (fun g hg => (ho.out.lt g hg).1)); clear g1 g2)
      go_roundw
      case rel => exact ⟨k + 1, a', c', by omega, by go_num, rfl, HX.out ▸ G1, G2⟩
      case measure => simp [intOf]; omega
    · obtain rfl : k = n := by omega
      go_wp2
      exact HP.out _ _ _ ho.out hb.out
def ClPost (e : TypeId) (size n : Nat) (xs : List Value) (w : World) (en : Ending) (w' : World) : Prop :=
  ∃ a c, en = .returned (.slice a n c) ∧ w'.ownsRow w.heap.size e size (.slice a n c) n xs ∧ Below w.heap.size w w'
theorem add_zero_addr (b o j : Nat) : (⟨b, o, none⟩ : Addr).add j = ⟨b, o + j, none⟩ := by
  unfold Addr.add
  split
  · rename_i h; rw [h, Nat.add_zero]
  · rfl
theorem flat_bI (l : List Bool) : flat bI l = l.map Value.bool := by
  induction l with
  | nil => rfl
  | cons a l ih => rw [flat_cons, ih]; rfl
theorem set_bI (l : List Bool) (k : Nat) (x : Bool) : (flat bI l).set k (.bool x) = flat bI (l.set k x) := by rw [flat_bI, flat_bI, List.map_set]
theorem row_open {w : World} {B size n c : Nat} {e : TypeId} {a : Option Addr} {xs : List Value} (h : w.ownsRow B e size (.slice a n c) n xs) (hn : 0 < n) : ∃ g, a = some ⟨g, 0, none⟩ ∧ g < w.heap.size := by
  rcases h.2 with ⟨_, h0⟩ | ⟨g, cap, cur, hv, _, hh, _⟩
  · omega
  · simp only [Value.slice.injEq] at hv
    exact ⟨g, hv.1, (Array.getElem?_eq_some_iff.1 hh).1⟩
theorem src_of {w : World} {a : Option Addr} {xs : List Value} (h : Lies w a xs) (hn : 0 < xs.length) : ∃ x, a = some x ∧ ∀ X, Below w.heap.size w X → ∀ j u, xs[j]? = some u → X.cell? (x.add j) = some u := by
  rcases h with h | ⟨b, o, rfl, h⟩
  · rw [h] at hn; simp at hn
  · refine ⟨_, rfl, fun X hX j u hj => ?_⟩
    rw [add_zero_addr]
    have h2 := h j u hj
    exact (hX.cell (p := ⟨b, o + j, none⟩) (cells_lt h2)).trans h2
theorem one_bI (zs : List Bool) : ∀ u ∈ flat bI zs, u.oneCell' = true := by intro u hu; rw [flat_bI] at hu; obtain ⟨z, _, rfl⟩ := List.mem_map.1 hu; rfl
theorem set_any (a : Option Addr) (c : Nat) (bs : List Bool) (i : Nat) (hi : i < bs.length) (hl : bs.length ≤ 100) (v : Bool) (w : World) (hz : Lies w a (flat bI bs)) :
    Calls Try.prog 72 #[.slice a bs.length c, .int .i64 (i : Int), .bool v] w (ClPost 4 1 bs.length (flat bI (bs.set i v)) w) := by
  obtain ⟨i0, hi0, hz0, hz1, hz2⟩ := info_parts (show (Try.prog.info? 4).map (fun i => (i.zero, i.size, i.bytes)) = some (some (.bool false), 1, 1) by kernel_rfl)
  have HI := Lib.hid (And.intro hi0 (And.intro hz0 (And.intro hz1 hz2)))
  clear hi0 hz0 hz1 hz2
  obtain ⟨x, rfl, hs⟩ := src_of hz (by rw [flat_len bI_len]; omega)
  have HS := Lib.hid hs
  have HE : Hid ((flat bI bs).length = bs.length * 1) := Lib.hid (by rw [flat_len bI_len])
  have HO := Lib.hid (one_bI bs)
  have HSET := Lib.hid (set_bI bs i v)
  have hii : (i : Int) < (bs.length : Int) := by omega
  have HP : Hid (∀ a' c' w', w'.ownsRow w.heap.size 4 1 (.slice a' bs.length c') bs.length (flat bI (bs.set i v)) → Below w.heap.size w w' → ClPost 4 1 bs.length (flat bI (bs.set i v)) w (.returned (.slice a' bs.length c')) w') := Lib.hid (fun a' c' w' h1 h2 => ⟨a', c', rfl, h1, h2⟩)
  clear hz hs
  generalize flat bI (bs.set i v) = ys at *
  generalize flat bI bs = xs at *
  generalize ClPost 4 1 bs.length ys w = POST at *
  generalize bs.length = n at *
  go_enter Try.func72, Try.ntmps72
  go_wp2_with (at_builtin; go_must (refine wpList_append_own_at _ rfl (.tmp 8) (.tmp 9) _ rfl w.heap.size 4 i0 _ 1 1 Try.underlying45 HI.out.1 HI.out.2.1 HI.out.2.2.1 HI.out.2.2.2 rfl (by decide) (.slice (some ⟨w.heap.size, 0, none⟩) 0 0) 0 [] rfl (World.ownsRow_lit w #[] 0 (Nat.le_refl _) (by decide) rfl) x n c xs rfl HE.out (HS.out _ (dbox _ _)) HO.out (by unfold maxLen; omega) (by omega) (by simp) ?_); intro v' w4 g1 g2 _ _; rw [Nat.zero_add, List.nil_append] at g1; obtain ⟨a', c', rfl⟩ := wk_slice g1; obtain ⟨g, rfl, hgl⟩ := row_open g1 (by omega); have hgB := (g1.lt g rfl).1; have hc := g1.cellAt i (by omega); have hfz := g1.frozenAt i; obtain ⟨hs2, _⟩ := g1.stored i (.bool v); rw [HSET.out] at hs2; have G1 := Lib.hid hs2; have G2 := Lib.hid (bel_set (p := g) (i := i) ((dbox w (.cells #[] 4)).grown g2 (by simp) (fun k hk => by cases hk; exact Nat.le_refl _)) hgB (.bool v)); obtain ⟨old, hold⟩ : ∃ old, w4.cell? ⟨g, i, none⟩ = some old := ⟨_, by rw [hc]; exact List.getElem?_eq_getElem (by rw [HE.out]; omega)⟩; clear hc hs2 g1 g2)
  exact HP.out _ _ _ G1.out G2.out
theorem sameInts_same (l : List Int) (a b : Option Addr) (c d : Nat) (hn : l.length ≤ 1048576) (w : World) (hz : Lies w a (kC l)) (hy : Lies w b (kC l)) :
    Calls Try.prog 40 #[.slice a l.length c, .slice b l.length d] w fun e w' => e = .returned (.bool true) ∧ Below w.heap.size w w' := by
  have Hz := Lib.hid hz
  have Hy := Lib.hid hy
  clear hz hy
  generalize hL : l.length = n at *
  have HL := Lib.hid hL
  clear hL
  have hs : ((n : Int) != n) = false := by simp
  go_enter Try.func40, Try.ntmps40
  go_wp2
  go_loopw [5] (fun i wr => ∃ k : Nat, k ≤ n ∧ i = .int .i64 k ∧ Hid (Below w.heap.size w wr)) (fun i _ => n - (intOf i).toNat)
  case atStart => exact ⟨0, Nat.zero_le _, rfl, Lib.hid (Below.refl _ _)⟩
  case round =>
    obtain ⟨k, hk, rfl, hb⟩ := hrel
    by_cases hlt : k < n
    · obtain ⟨b1, o1, rfl, hb1, hc1⟩ := Hz.out.open (by rw [kC_len, HL.out]; omega)
      obtain ⟨b2, o2, rfl, hb2, hc2⟩ := Hy.out.open (by rw [kC_len, HL.out]; omega)
      have d0 := (hb.out.cell (p := ⟨b1, o1 + k, none⟩) hb1).trans (kind_at hc1 (i := k) (by rw [HL.out]; exact hlt))
      have d1 := (hb.out.cell (p := ⟨b2, o2 + k, none⟩) hb2).trans (kind_at hc2 (i := k) (by rw [HL.out]; exact hlt))
      clear hc1 hc2
      generalize l.getD k 0 = x at *
      have hxx : (x != x) = false := by simp
      go_wp2_with fail
      go_quiet (fail)
      go_wp2
      go_roundw
      case rel => exact ⟨k + 1, by omega, by go_num, Lib.hid (bel_dn hb.out _)⟩
      case measure => simp [intOf]; omega
    · obtain rfl : k = n := by omega
      go_wp2
      go_ret
      exact ⟨rfl, hb.out⟩
theorem chance_any (B p N : Nat) (n : Int) (w : World) (hS : Src w B p N) (hN : N ≤ 1000000) (h1 : 2 ≤ n) (h2 : n ≤ 1000000000) :
    Calls Try.prog 71 #[.pointer (some ⟨p, 0, none⟩), .int .i64 n] w fun e w' => ∃ q : Bool, e = .returned (.bool q) ∧ Src w' B p (N + 3) ∧ w.grownBy w' (some p) := by
  have H := Lib.hid hS
  clear hS
  go_enter Try.func71, Try.ntmps71
  go_wp2_with fail
  refine (next_any B p N n w H.out (by omega) h1 h2).mono ?_
  rintro e w' ⟨v, rfl, v0, v1, hD, hg⟩
  have HD := Lib.hid (And.intro hD hg)
  clear hD hg
  go_wp2
  go_ret
  exact ⟨_, rfl, HD.out⟩
/-- A row of eight booleans in the call's own memory. -/
def R8 (w : World) (B : Nat) (v : Value) : Prop := ∃ a c bs, v = .slice a 8 c ∧ bs.length = 8 ∧ w.ownsRow B 4 1 (.slice a 8 c) 8 (flat bI bs)
theorem own_down {w : World} {B B' size n : Nat} {e : TypeId} {v : Value} {xs : List Value} (h : w.ownsRow B e size v n xs) (hb : B' ≤ B) : w.ownsRow B' e size v n xs :=
  ⟨h.1, h.2.imp id (fun ⟨g, cap, cur, h1, h2, h3⟩ => ⟨g, cap, cur, h1, Nat.le_trans hb h2, h3⟩)⟩
theorem R8.bel {w w' : World} {B : Nat} {v : Value} (h : R8 w B v) (hb : Below w.heap.size w w') : R8 w' B v := by
  obtain ⟨a, c, bs, e, hl, ho⟩ := h
  exact ⟨a, c, bs, e, hl, own_bl ho hb⟩
theorem R8.src {w w' : World} {B p : Nat} {v : Value} (h : R8 w B v) (hg : w.grownBy w' (some p)) (hp : p < B) : R8 w' B v := by
  obtain ⟨a, c, bs, e, hl, ho⟩ := h
  exact ⟨a, c, bs, e, hl, ho.kept hg (Or.inr (fun q => by have := (ho.lt p q).1; omega))⟩
theorem R8.row {w w' : World} {B B' n n' : Nat} {v u : Value} {xs : List Value} (h : R8 w B v) (ho' : w.ownsRow B' 45 1 u n xs) (hg : w.grownBy w' u.ownBlock) : R8 w' B v := by
  obtain ⟨a, c, bs, e, hl, ho⟩ := h
  exact ⟨a, c, bs, e, hl, ho.kept hg (own_ne2 ho ho' (by decide))⟩
/-- Rows of them. -/
structure RR (w0 : World) (p : Nat) (vs : List Value) (a : Option Addr) (c : Nat) (v : Value) (w : World) : Prop where
  own : w.ownsRow w0.heap.size 45 1 (.slice a vs.length c) vs.length vs
  all : ∀ x ∈ vs, R8 w w0.heap.size x
  now : R8 w w0.heap.size v
  bel : w0.grownBy w (some p)
theorem none_bel {w w' : World} (hb : Below w.heap.size w w') (row : Option Nat) : w.grownBy w' row := ⟨hb.os, hb.tape, hb.output, hb.size, fun k hk _ => hb.block k hk⟩
theorem RR.step {w0 w w' : World} {p c : Nat} {vs : List Value} {a : Option Addr} {v : Value} (h : RR w0 p vs a c v w) (hb : Below w.heap.size w w') : RR w0 p vs a c v w' :=
  ⟨own_bl h.own hb, fun x hx => (h.all x hx).bel hb, h.now.bel hb, grown_tr h.bel (none_bel hb _)⟩
theorem RR.src {w0 w w' : World} {p c : Nat} {vs : List Value} {a : Option Addr} {v : Value} (h : RR w0 p vs a c v w) (hg : w.grownBy w' (some p)) (hp : p < w0.heap.size) : RR w0 p vs a c v w' :=
  ⟨h.own.kept hg (Or.inr (fun q => by have := (h.own.lt p q).1; omega)), fun x hx => (h.all x hx).src hg hp, h.now.src hg hp, grown_tr h.bel hg⟩
theorem Src.bel {w w' : World} {B p N : Nat} (h : Src w B p N) (hb : Below w.heap.size w w') : Src w' B p N := h.grown (none_bel hb none) (by intro e; cases e) (by intro k e; cases e)
theorem in_next {w w1 w2 : World} {p k c : Nat} {vs : List Value} {a : Option Addr} {v : Value} {O : Obj} {a' : Option Addr} {q' : Nat} (h : RR w p vs a c v w1) (hl : vs.length = k) (hp : p < w.heap.size) (g1 : w2.ownsRow w.heap.size 45 1 (.slice a' (k + 1) q') (k + 1) (vs ++ [v])) (g2 : (w1.alloc O).grownBy w2 (Value.ownBlock (.slice a k c))) : RR w p (vs ++ [v]) a' q' v w2 := by
  have h2 := h.step (dbox w1 O)
  have ho := h2.own
  rw [hl] at ho
  refine ⟨?_, fun x hx => ?_, h2.now.row (n' := 0) (B' := w.heap.size) ho g2, grown_new h2.bel g2 (fun j hj => (ho.lt j hj).1)⟩
  · rw [List.length_append, List.length_singleton, hl]; exact g1
  · rcases List.mem_append.1 hx with hx | hx
    · exact (h2.all x hx).row (n' := 0) ho g2
    · rw [List.mem_singleton.1 hx]; exact h2.now.row (n' := 0) ho g2
theorem src_next {w w1 w2 : World} {B p M k c : Nat} {vs : List Value} {a : Option Addr} {O : Obj} (h : Src w1 B p M) (hp : p < w.heap.size) (ho : w1.ownsRow w.heap.size 45 1 (.slice a k c) k vs) (g2 : (w1.alloc O).grownBy w2 (Value.ownBlock (.slice a k c))) : Src w2 B p M :=
  (h.alloc O).grown g2 (fun e => by have := (ho.lt p e.symm).1; omega) (fun j hj => by have h1 := (ho.lt j hj).1; have h2 := h.1; omega)
def InPost (B p N : Nat) (w : World) (e : Ending) (w' : World) : Prop := ∃ a c vs, vs.length = 12 ∧ e = .returned (.slice a 12 c) ∧ w'.ownsRow w.heap.size 45 1 (.slice a 12 c) 12 vs ∧ (∀ x ∈ vs, R8 w' w.heap.size x) ∧ w.grownBy w' (some p)
set_option maxHeartbeats 2000000 in
theorem inputs_any (B p N : Nat) (w : World) (hS : Src w B p N) (hN : N ≤ 1000) :
    Calls Try.prog 63 #[.pointer (some ⟨p, 0, none⟩), .int .i64 12] w (InPost B p N w) := by
  obtain ⟨i1, hi, hz0, hz1, hz2⟩ := info_parts (show (Try.prog.info? 45).map (fun i => (i.zero, i.size, i.bytes)) = some (some (.slice none 0 0), 1, 24) by kernel_rfl)
  have HJ := Lib.hid (And.intro hi (And.intro hz0 (And.intro hz1 hz2)))
  clear hi hz0 hz1 hz2
  have HS := Lib.hid hS
  have hpw : p < w.heap.size := hS.2.1
  have HPW := Lib.hid hpw
  clear hS hpw
  have HP : Hid (∀ a c vs w', vs.length = 12 → w'.ownsRow w.heap.size 45 1 (.slice a 12 c) 12 vs → (∀ x ∈ vs, R8 w' w.heap.size x) → w.grownBy w' (some p) → InPost B p N w (.returned (.slice a 12 c)) w') := Lib.hid (fun a c vs w' h1 h2 h3 h4 => ⟨a, c, vs, h1, rfl, h2, h3, h4⟩)
  generalize InPost B p N w = POST at *
  have HB0 := Lib.hid (dbox w (.cells #[] 45))
  have HO0 : Hid ((w.alloc (.cells #[] 45)).ownsRow w.heap.size 45 1 (.slice (some ⟨w.heap.size, 0, none⟩) 0 0) 0 []) := Lib.hid (World.ownsRow_lit (base := w.heap.size) (e := 45) (size := 1) w #[] 0 (Nat.le_refl _) (Nat.zero_le _) rfl)
  have HS := Lib.hid (HS.out.alloc (.cells #[] 45))
  go_enter Try.func63, Try.ntmps63
  go_wp2_with fail
  refine Calls.mono (l06Bools_any 8 (by omega) _) ?_
  rintro e w1 ⟨an, cn, rfl, ho, hb⟩
  have HS := Lib.hid (HS.out.bel hb)
  have HR : Hid (RR w p [] (some ⟨w.heap.size, 0, none⟩) 0 (.slice an 8 cn) w1) := Lib.hid ⟨own_bl HO0.out hb, (fun x hx => by cases hx), ⟨an, cn, _, rfl, List.length_replicate, own_down ho HB0.out.size⟩, grown_tr (none_bel HB0.out _) (none_bel hb _)⟩
  clear hb ho HO0 HB0
  go_wp2
  go_loopw [5, 6, 7] (fun o v i wr => ∃ (k M : Nat) (a : Option Addr) (c : Nat) (vs : List Value), k ≤ 12 ∧ vs.length = k ∧ i = .int .i64 k ∧ o = .slice a k c ∧ M ≤ N + 9 * k ∧ Hid (RR w p vs a c v wr) ∧ Hid (Src wr B p M)) (fun _ _ i _ => 12 - (intOf i).toNat)
  case atStart => exact ⟨0, N, _, _, [], by omega, rfl, rfl, rfl, by omega, HR, HS⟩
  case round =>
    obtain ⟨k, M, a, c, vs, hk, hl, rfl, rfl, hM, hr, hs⟩ := hrel
    by_cases hlt : k < 12
    case neg =>
      obtain rfl : k = 12 := by omega
      go_wp2
      exact HP.out _ _ _ _ hl (by rw [← hl]; exact (hl ▸ hr.out.own)) hr.out.all hr.out.bel
    go_wp2
    have HLT := Lib.hid hlt
    clear hlt
    generalize decide ((k : Int) < 12) = bb
    go_loopw [6, 8] (fun v j wr' => ∃ (k2 M' : Nat), k2 ≤ 3 ∧ j = .int .i64 k2 ∧ M' ≤ M + 3 * k2 ∧ Hid (RR w p vs a c v wr') ∧ Hid (Src wr' B p M')) (fun _ j _ => 3 - (intOf j).toNat)
    case atStart => exact ⟨0, M, by omega, rfl, by omega, hr, hs⟩
    case round =>
      rename_i v0 wr0
      clear hr hs
      obtain ⟨k2, M', hk2, rfl, hM', hr, hs⟩ := hrel
      by_cases hlt2 : k2 < 3
      · go_wp2_with fail
        refine Calls.mono (chance_any B p M' 8 _ hs.out (by omega) (by omega) (by omega)) ?_
        rintro e w2 ⟨q, rfl, hS, hg⟩
        have HS := Lib.hid hS
        have HR := Lib.hid (hr.out.src hg HPW.out)
        clear hS hg hr hs
        cases q
        · go_wp2
          go_roundw
          case rel => exact ⟨k2 + 1, _, by omega, by go_num, by omega, HR, HS⟩
          case measure => simp [intOf]; omega
        · obtain ⟨an', cn', bs, rfl, hbl, hob⟩ := HR.out.now
          obtain ⟨b1, o1, rfl, hb1, hc1⟩ := (lies_own hob).open (by rw [bC_len, hbl]; omega)
          have d1 := bool_at hc1 (i := k2) (by omega)
          have HSE := Lib.hid (fun u => set_any (some ⟨b1, o1, none⟩) cn' bs k2 (by omega) (by omega) u w2 (lies_own hob))
          have HBL : Hid (∀ u, (bs.set k2 u).length = 8) := Lib.hid (fun u => by rw [List.length_set]; exact hbl)
          rw [hbl] at HSE
          clear hc1 hob hbl
          generalize bs.getD k2 false = u1 at *
          go_wp2_with fail
          refine Calls.mono (HSE.out _) ?_
          rintro e w3 ⟨a3, c3, rfl, ho, hb⟩
          have HS := Lib.hid (HS.out.bel hb)
          have HR1 := Lib.hid (HR.out.step hb)
          have HRN : Hid (RR w p vs a c (.slice a3 8 c3) w3) := Lib.hid ⟨HR1.out.own, HR1.out.all, ⟨a3, c3, _, rfl, HBL.out _, own_down ho (Nat.le_trans HR.out.bel.size (Nat.le_refl _))⟩, HR1.out.bel⟩
          clear ho hb HR HR1 d1 HSE
          go_wp2
          go_roundw
          case rel => exact ⟨k2 + 1, _, by omega, by go_num, by omega, HRN, HS⟩
          case measure => simp [intOf]; omega
      · obtain rfl : k2 = 3 := by omega
        obtain ⟨an', cn', bs, rfl, -, -⟩ := hr.out.now
        have HO : Hid (wr.ownsRow w.heap.size 45 1 (.slice a k c) k vs) := Lib.hid (by have h := hr.out.own; rw [hl] at h; exact h)
        have hls : w.heap.size ≤ wr.heap.size := hr.out.bel.size
        have HPB := Lib.hid hs.out.1
        clear hlt2 HLT
        go_wp2_with (at_builtin; go_must (refine wpList_append_own _ rfl (.tmp 30) (.tmp 32) _ rfl w.heap.size 45 i1 _ 1 24 Try.underlying59 HJ.out.1 HJ.out.2.1 HJ.out.2.2.1 HJ.out.2.2.2 rfl (by decide) (.slice a k c) k vs rfl (own_bl HO.out (dbox _ _)) ⟨wr.heap.size, 0, none⟩ 1 1 [.slice an' 8 cn'] rfl rfl (cell_one_nw _ _ _) (by simp [Value.oneCell']) (by unfold maxLen; omega) (by omega) (by simp; omega) ?_); intro v' w2 g1' g2' _; obtain ⟨a', q', rfl⟩ := wk_slice g1'; have Hin := Lib.hid (in_next hr.out hl HPW.out g1' g2'); have Hsn := Lib.hid (src_next hs.out HPW.out HO.out g2'); clear g1' g2')
        go_roundw
        case rel => exact ⟨k + 1, M', a', q', vs ++ [.slice an' 8 cn'], by omega, by simp [hl], by go_num, rfl, by omega, Hin, Hsn⟩
        case measure => simp [intOf]; omega
end Go.Proofs.Ytgbnoaclklbjbaa
