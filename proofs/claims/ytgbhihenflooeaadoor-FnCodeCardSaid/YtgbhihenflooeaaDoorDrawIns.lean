/- Drawn instructions are valid; a drawn list of them. -/
import Derived.Test.YtgbhihenflooeaaDoorAt
import Derived.Test.YtgbhihenflooeaaDoorInsRow
import Derived.Test.YtgbhihenflooeaaDoorCode
import Derived.Test.YtgbhihenflooeaaDoorCodeI
import Derived.Test.YtgbhihenflooeaaDoorRdCode
import Derived.Deep.DeepMust
import Derived.Outline
namespace Go.Proofs.YtgbhihenflooeaaDoor
open Go.ChangeShapes Go.WideShapes Go.ChangeAt Go.RowKit
theorem blk_two {w : World} {b : Nat} {x y : Value} {t : TypeId} (h : w.heap[b]? = some (.cells #[x, y] t (0, 0))) :
    w.cell? ⟨b, 0, none⟩ = some x ∧ w.cell? ⟨b, 1, none⟩ = some y ∧ w.frozen? ⟨b, 0, none⟩ = false ∧ w.frozen? ⟨b, 1, none⟩ = false :=
  ⟨cell_of_row _ _ 0 _ _ _ h, cell_of_row _ _ 1 _ _ _ h, frozen_of_row _ _ 0 _ _ h, frozen_of_row _ _ 1 _ _ h⟩
theorem bare_ok0 {k : Nat} (h1 : 1 ≤ k) (h2 : k ≤ 26) (h : opHas k = false) : okB (k : Int) 0 = true := by
  rw [okB_in h1 h2]
  exact op_cases (p := fun k => 1 ≤ k → opHas k = false → (decide (opLo k ≤ 0) && decide (0 ≤ opHi k)) = true) (by decide) (by omega) h1 h
def InstrPost (B p N : Nat) (w : World) (e : Ending) (w' : World) : Prop :=
  ∃ n a : Int, e = .returned (.agg #[.int .i64 n, .int .i64 a]) ∧ okB n a = true ∧ Src w' B p N ∧ w.grownBy w' (some p)
theorem src_set {w0 w : World} {B p M b i : Nat} {x : Value} (hS : Src w B p M) (hg : w0.grownBy w (some p)) (hb : w0.heap.size ≤ b) (hp : B ≤ p ∧ p < w0.heap.size) : Src (w.setCell ⟨b, i, none⟩ x) B p M ∧ w0.grownBy (w.setCell ⟨b, i, none⟩ x) (some p) :=
  ⟨hS.grown (grown_set w b i x) (by intro e; injection e with e; omega) (by intro k e; cases e; omega), grown_new hg (grown_set w b i x) (by intro k e; cases e; exact hb)⟩
theorem src_al {w0 w : World} {B p M : Nat} {o : Obj} (h : Src w B p M ∧ w0.grownBy w (some p)) : Src (w.alloc o) B p M ∧ w0.grownBy (w.alloc o) (some p) :=
  ⟨h.1.alloc o, grown_new h.2 (World.grownBy_alloc w o none) (by intro k e; cases e)⟩
/-- The draws of A lie in its range. -/
theorem span_ok : ∀ k : Fin 27, 1 < k.1 → opHas k.1 = true → 1 ≤ opHi k.1 - opLo k.1 ∧ opHi k.1 - opLo k.1 ≤ 1000 ∧ 0 ≤ opLo k.1 ∧ opLo k.1 ≤ 1000 := by decide
theorem span_at {k : Nat} (h : 1 < k) (h2 : k ≤ 26) (g : opHas k = true) : 1 ≤ opHi k - opLo k ∧ opHi k - opLo k ≤ 1000 ∧ 0 ≤ opLo k ∧ opLo k ≤ 1000 := span_ok ⟨k, by omega⟩ h g
set_option maxRecDepth 100000 in
theorem instr_any (B p N : Nat) (w : World) (hS : Src w B p N) (hN : N ≤ 1152921504606846900) :
    Calls Tryd.prog 43 #[.pointer (some ⟨p, 0, none⟩)] w (InstrPost B p (N + 10) w) := by
  have hp := hS.2.1
  have hB := hS.1
  have HS := Lib.hid (hS.alloc (.cells #[.int .i64 0, .int .i64 0] 39))
  have G0 := Lib.hid (World.grownBy_alloc w (.cells #[.int .i64 0, .int .i64 0] 39) (some p))
  have K0 := Lib.hid (heap_alloc_new w (.cells #[.int .i64 0, .int .i64 0] 39))
  clear hS
  go_enter Tryd.func43, Tryd.ntmps43
  go_wp2_with fail
  refine (next_any B p N 26 _ HS.out (by omega) (by omega) (by omega)).mono ?_
  rintro e w1 ⟨v, rfl, lo, hi, hS1, hg1⟩
  obtain ⟨u, rfl⟩ := Int.eq_ofNat_of_zero_le lo
  have H1 := Lib.hid hS1
  have K1 := Lib.hid ((hg1.block w.heap.size (by simp) (by intro e; injection e with e; omega)).trans K0.out)
  have G1 := Lib.hid (grown_tr G0.out hg1)
  have hz1 : w.heap.size < w1.heap.size := by have := hg1.size; simp at this; omega
  clear hS1 hg1
  have hu : ((1 : Int) + (u : Int)) = ((u + 1 : Nat) : Int) := by omega
  cases hh : opHas (u + 1)
  · have HH : Hid (∀ w, Calls Tryd.prog 78 #[.int .i64 (1 + (u : Int))] w fun e w' => e = .returned (.tuple #[.int .i64 (opLo (u + 1)), .int .i64 (opHi (u + 1)), .bool false]) ∧ w = w') := Lib.hid (fun w => by rw [hu]; exact hh ▸ l02Has_any (u + 1) (by omega) (by omega) w)
    have HK : Hid (okB (1 + (u : Int)) 0 = true) := Lib.hid (by rw [hu]; exact bare_ok0 (by omega) (by omega) hh)
    obtain ⟨c0, c1, f0, f1⟩ := blk_two K1.out
    clear hh hu
    go_wp2_with (go_at_call 78; refine (HH.out _).mono ?_; rintro e w' ⟨rfl, rfl⟩)
    refine bodyPost_ret (v := .agg #[.int .i64 (1 + (u : Int)), .int .i64 0]) (by simp [results, Tryd.results43, go_sem, c0, c1, hz1]) rfl ?_
    have h1 := src_set (i := 0) (x := .int .i64 (1 + (u : Int))) H1.out G1.out (Nat.le_refl _) ⟨hB, hp⟩
    have h2 := src_al (o := .cells #[.int .i64 (1 + (u : Int)), .int .i64 0] 39) (src_set (i := 1) (x := .int .i64 0) h1.1 h1.2 (Nat.le_refl _) ⟨hB, hp⟩)
    exact ⟨_, _, rfl, HK.out, h2.1.more (by omega), h2.2⟩
  · have HH : Hid (∀ w, Calls Tryd.prog 78 #[.int .i64 (1 + (u : Int))] w fun e w' => e = .returned (.tuple #[.int .i64 (opLo (u + 1)), .int .i64 (opHi (u + 1)), .bool true]) ∧ w = w') := Lib.hid (fun w => by rw [hu]; exact hh ▸ l02Has_any (u + 1) (by omega) (by omega) w)
    have L2 := Lib.hid (heap_alloc_new w1 (.cells #[.int .i64 (1 + (u : Int)), .int .i64 0] 39))
    have K2 := Lib.hid (heap_keep (o' := .cells #[.int .i64 (1 + (u : Int)), .int .i64 0] 39) K1.out)
    have S2 := Lib.hid (src_al (o := .cells #[.int .i64 (1 + (u : Int)), .int .i64 0] 39) ⟨H1.out, G1.out⟩)
    by_cases h1 : u = 0
    · subst h1
      have HK := Lib.hid (show ∀ v : Int, -2147483648 ≤ v → v ≤ 2147483647 → okB (1 + ((0 : Nat) : Int)) v = true from fun v a b => by
        rw [hu, okB_in (by omega) (by omega), decide_eq_true (show opLo (0 + 1) ≤ v from a), decide_eq_true (show v ≤ opHi (0 + 1) from b)]
        rfl)
      clear hh hu lo hi
      go_wp2_with (go_at_call 78; refine (HH.out _).mono ?_; rintro e w' ⟨rfl, rfl⟩)
      refine (value_any B p (N + 3) _ S2.out.1 (by omega)).mono ?_
      rintro e w3 ⟨v, rfl, lo, hi, hS3, hg3⟩
      have hz3 := hg3.size
      have L3 := (hg3.block w1.heap.size (by simp) (by intro e; injection e with e; omega)).trans L2.out
      have K3 := (hg3.block w.heap.size (by simp; omega) (by intro e; injection e with e; omega)).trans K2.out
      obtain ⟨c0, c1, f0, f1⟩ := blk_two K3
      obtain ⟨d0, d1, e0, e1⟩ := blk_two L3
      have S3 := Lib.hid (And.intro hS3 (grown_tr S2.out.2 hg3))
      have HV := Lib.hid (HK.out v lo hi)
      clear hS3 hg3 L3 K3 hz3
      go_wp2
      refine bodyPost_ret (v := .agg #[.int .i64 1, .int .i64 v]) (by simp [results, Tryd.results43, go_sem, c0, c1]) rfl ?_
      have g1 := src_set (b := w1.heap.size) (i := 1) (x := .int .i64 v) S3.out.1 S3.out.2 (by omega) ⟨hB, hp⟩
      have g2 := src_set (b := w.heap.size) (i := 0) (x := .int .i64 1) g1.1 g1.2 (Nat.le_refl _) ⟨hB, hp⟩
      have g3 := src_set (b := w.heap.size) (i := 1) (x := .int .i64 v) g2.1 g2.2 (Nat.le_refl _) ⟨hB, hp⟩
      exact ⟨_, _, rfl, by simpa using HV.out, g3.1.more (by omega), g3.2⟩
    · have hs := span_at (k := u + 1) (by omega) (by omega) hh
      have HK := Lib.hid (show ∀ v : Int, opLo (u + 1) ≤ v → v ≤ opHi (u + 1) → okB (1 + (u : Int)) v = true from fun v a b => by
        rw [hu, okB_in (by omega) (by omega), decide_eq_true a, decide_eq_true b]
        rfl)
      have hq : ((1 : Int) + (u : Int) == 1) = false := beq_eq_false_iff_ne.2 (by omega)
      have hu0 : 1 ≤ u := by omega
      clear hh hu
      generalize opLo (u + 1) = L at *
      generalize opHi (u + 1) = M at *
      go_wp2_with (go_at_call 78; refine (HH.out _).mono ?_; rintro e w' ⟨rfl, rfl⟩)
      refine (next_any B p (N + 3) _ _ S2.out.1 (by omega) (by omega) (by omega)).mono ?_
      rintro e w3 ⟨v, rfl, lo3, hi3, hS3, hg3⟩
      have hz3 := hg3.size
      have L3 := (hg3.block w1.heap.size (by simp) (by intro e; injection e with e; omega)).trans L2.out
      have K3 := (hg3.block w.heap.size (by simp; omega) (by intro e; injection e with e; omega)).trans K2.out
      obtain ⟨c0, c1, f0, f1⟩ := blk_two K3
      obtain ⟨d0, d1, e0, e1⟩ := blk_two L3
      have S3 := Lib.hid (And.intro hS3 (grown_tr S2.out.2 hg3))
      have HV := Lib.hid (HK.out (L + v) (by omega) (by omega))
      clear hS3 hg3 L3 K3 hz3
      go_wp2
      refine bodyPost_ret (v := .agg #[.int .i64 (1 + (u : Int)), .int .i64 (L + v)]) (by simp [results, Tryd.results43, go_sem, c0, c1]) rfl ?_
      have g1 := src_set (b := w1.heap.size) (i := 1) (x := .int .i64 (L + v)) S3.out.1 S3.out.2 (by omega) ⟨hB, hp⟩
      have g2 := src_set (b := w.heap.size) (i := 0) (x := .int .i64 (1 + (u : Int))) g1.1 g1.2 (Nat.le_refl _) ⟨hB, hp⟩
      have g3 := src_set (b := w.heap.size) (i := 1) (x := .int .i64 (L + v)) g2.1 g2.2 (Nat.le_refl _) ⟨hB, hp⟩
      exact ⟨_, _, rfl, HV.out, g3.1.more (by omega), g3.2⟩
def CodePost (B p N m : Nat) (w : World) (e : Ending) (w' : World) : Prop :=
  ∃ (a : Option Addr) (c : Nat) (zs : List (Int × Int)), e = .returned (.slice a m c) ∧ zs.length = m ∧ okAll zs = true ∧ w'.ownsRow w.heap.size 39 2 (.slice a m c) m (flat insC zs) ∧ Src w' B p N ∧ w.grownBy w' (some p)
theorem okAll_snoc {zs : List (Int × Int)} {x y : Int} (h : okAll zs = true) (g : okB x y = true) : okAll (zs ++ [(x, y)]) = true := by
  unfold okAll at *
  rw [List.all_append, h]
  simp [g]
theorem own_np {w0 w : World} {B p N e size n : Nat} {v : Value} {xs : List Value} (h : Src w0 B p N) (ho : w.ownsRow w0.heap.size e size v n xs) : v.ownBlock ≠ some p := by
  intro hv
  have := (ho.lt p hv).1
  have := h.2.1
  omega
set_option maxRecDepth 100000 in
theorem someCode_any (B p N m : Nat) (w : World) (hS : Src w B p N) (hN : N ≤ 1000000) (hm : m ≤ 1000) :
    Calls Tryd.prog 35 #[.pointer (some ⟨p, 0, none⟩), .int .i64 (m : Int)] w (CodePost B p (N + 10 * m) m w) := by
  have HS := Lib.hid hS
  obtain ⟨i0, hi, hz0, hz1, hz2⟩ := info_parts (show (Tryd.prog.info? 39).map (fun i => (i.zero, i.size, i.bytes)) = some (some (.agg #[.int .i64 0, .int .i64 0]), 2, 16) by kernel_rfl)
  have HI := Lib.hid (And.intro hi (And.intro hz0 (And.intro hz1 hz2)))
  clear hi hz0 hz1 hz2 hS
  go_enter Tryd.func35, Tryd.ntmps35
  go_wp2
  go_loopw [5, 6] (fun v i wr => ∃ (k c : Nat) (a : Option Addr) (zs : List (Int × Int)), k ≤ m ∧ i = .int .i64 k ∧ v = .slice a k c ∧ Hid (zs.length = k) ∧ Hid (okAll zs = true) ∧ Hid (wr.ownsRow w.heap.size 39 2 (.slice a k c) k (flat insC zs)) ∧ Hid (Src wr B p (N + 10 * k)) ∧ Hid (w.grownBy wr (some p))) (fun _ i _ => m - (intOf i).toNat)
  case atStart => exact ⟨0, 0, some ⟨w.heap.size, 0, none⟩, [], Nat.zero_le _, rfl, rfl, Lib.hid rfl, Lib.hid rfl, Lib.hid (World.ownsRow_lit w #[] 0 (Nat.le_refl _) (Nat.zero_le _) rfl), Lib.hid (HS.out.alloc _), Lib.hid (World.grownBy_alloc w _ _)⟩
  case round =>
    obtain ⟨k, c, a, zs, hk, rfl, rfl, hl, hok, ho, hs, hg⟩ := hrel
    by_cases hlt : k < m
    · go_wp2_with fail
      refine (instr_any B p (N + 10 * k) _ hs.out (by omega)).mono ?_
      rintro e w1 ⟨x, y, rfl, hxy, hS1, hg1⟩
      have hown := ho.out.kept hg1 (Or.inr (own_np HS.out ho.out))
      have Hs1 := Lib.hid hS1
      have Hg1 := Lib.hid (grown_tr hg.out hg1)
      have hsz := Hg1.out.size
      have Hok := Lib.hid (okAll_snoc hok.out hxy)
      clear hS1 hg1 hxy
      obtain ⟨H1, H2, H3, H4⟩ := HI.out
      go_wp2_with (at_builtin; go_must (refine wpList_append_own _ rfl (.tmp 13) (.tmp 16) _ rfl w.heap.size 39 i0 _ 2 16 Tryd.underlying23 H1 H2 H3 H4 rfl (by decide) (.slice a k c) k (flat insC zs) rfl (hown.alloc _) ⟨w1.heap.size, 0, none⟩ 1 1 [.int .i64 x, .int .i64 y] rfl rfl (by simpa using cell_two_nw w1 (.int .i64 x) (.int .i64 y) 39) (by simp [Value.oneCell']) (by unfold maxLen; omega) (by omega) (by simp; omega) ?_); intro v3 w3 g3 g4 _; obtain ⟨a3, c3, hv3⟩ := own_slice g3; subst hv3)
      have hlt' := fun g hg => hown.lt g hg
      have Ho4 : Hid (w3.ownsRow w.heap.size 39 2 (.slice a3 (k + 1) c3) (k + 1) (flat insC (zs ++ [(x, y)]))) := Lib.hid (own_cast g3 rfl (by rw [flat_snoc]; rfl))
      have Hl4 : Hid ((zs ++ [(x, y)]).length = k + 1) := Lib.hid (by simp [hl.out])
      have Hs4 : Hid (Src w3 B p (N + 10 * (k + 1))) := Lib.hid (((Hs1.out.alloc _).grown g4 (fun e => own_np HS.out hown e.symm) (fun q hq => by have := (hlt' q hq).1; have := HS.out.1; have := HS.out.2.1; omega)).more (by omega))
      have Hg4 : Hid (w.grownBy w3 (some p)) := Lib.hid (grown_new (grown_new Hg1.out (World.grownBy_alloc w1 _ none) (by intro q hq; cases hq)) g4 (fun q hq => (hlt' q hq).1))
      clear g3 g4 hown hlt' hsz
      go_roundw
      case rel => exact ⟨k + 1, c3, a3, zs ++ [(x, y)], by omega, by go_num, rfl, Hl4, Hok, Ho4, Hs4, Hg4⟩
      case measure => simp [intOf]; omega
    · obtain rfl : k = m := by omega
      go_wp2
      go_ret
      exact ⟨a, c, zs, rfl, hl.out, hok.out, ho.out, hs.out, hg.out⟩
def ListPost (m : Nat) (w : World) (e : Ending) (w' : World) : Prop :=
  ∃ (a : Option Addr) (c : Nat) (zs : List (Int × Int)), e = .returned (.slice a m c) ∧ zs.length = m ∧ okAll zs = true ∧ Lies w' a (flat insC zs) ∧ Below w.heap.size w w'
theorem specSomeCode_any (a : Option Addr) (n c m : Nat) (w : World) (h : Bytes0 w w.heap.size a n) (hm : m ≤ 1000) :
    Calls Tryd.prog 7 #[.slice a n c, .int .i64 (m : Int)] w (ListPost m w) := by
  go_enter Tryd.func7, Tryd.ntmps7
  go_wp2_with fail
  refine (source_any a n c w h).mono ?_
  rintro e w1 ⟨rfl, hS, hb⟩
  have H1 := Lib.hid hS
  have B1 := Lib.hid hb
  clear hS hb
  go_wp2_with fail
  refine (someCode_any w.heap.size w.heap.size 0 m _ H1.out (by omega) hm).mono ?_
  rintro e w2 ⟨a2, c2, zs, rfl, hl, hok, ho, hS2, hg2⟩
  have B2 := Lib.hid (B1.out.grown hg2 B1.out.size (by intro k hk; cases hk; exact Nat.le_refl _))
  have Hl := Lib.hid hl
  have Hok := Lib.hid hok
  have Ho := Lib.hid ho
  clear hS2 hg2 hl hok ho
  go_wp2
  go_ret
  exact ⟨a2, c2, zs, rfl, Hl.out, Hok.out, lies_own Ho.out, B2.out⟩
theorem sameCode_same (zs : List (Int × Int)) (a b : Option Addr) (c d : Nat) (hn : zs.length ≤ 1048576) (w : World) (hz : Lies w a (flat insC zs)) (hy : Lies w b (flat insC zs)) :
    Calls Tryd.prog 12 #[.slice a zs.length c, .slice b zs.length d] w fun e w' => e = .returned (.bool true) ∧ Below w.heap.size w w' := by
  have Hz := Lib.hid hz
  have Hy := Lib.hid hy
  clear hz hy
  generalize hL : zs.length = n at *
  have HL := Lib.hid hL
  clear hL
  have hs : ((n : Int) != n) = false := by simp
  go_enter Tryd.func12, Tryd.ntmps12
  go_wp2
  go_loopw [5] (fun i wr => ∃ k : Nat, k ≤ n ∧ i = .int .i64 k ∧ Hid (Below w.heap.size w wr)) (fun i _ => n - (intOf i).toNat)
  case atStart => exact ⟨0, Nat.zero_le _, rfl, Lib.hid (Below.refl _ _)⟩
  case round =>
    obtain ⟨k, hk, rfl, hb⟩ := hrel
    by_cases hlt : k < n
    · obtain ⟨b1, o1, rfl, hb1, hc1⟩ := Hz.out.open (by rw [flat_len insC_len, HL.out]; omega)
      obtain ⟨b2, o2, rfl, hb2, hc2⟩ := Hy.out.open (by rw [flat_len insC_len, HL.out]; omega)
      obtain ⟨c0, c1⟩ := ins_at hc1 (i := k) (by rw [HL.out]; exact hlt)
      obtain ⟨c2, c3⟩ := ins_at hc2 (i := k) (by rw [HL.out]; exact hlt)
      have d0 := (hb.out.cell (p := ⟨b1, o1 + k * 2, none⟩) hb1).trans c0
      have d1 := (hb.out.cell (p := ⟨b1, o1 + k * 2 + 1, none⟩) hb1).trans c1
      have d2 := (hb.out.cell (p := ⟨b2, o2 + k * 2, none⟩) hb2).trans c2
      have d3 := (hb.out.cell (p := ⟨b2, o2 + k * 2 + 1, none⟩) hb2).trans c3
      clear hc1 hc2 c0 c1 c2 c3
      generalize (zs.getD k (0, 0)).1 = x at *
      generalize (zs.getD k (0, 0)).2 = y at *
      have hki : (k : Int) < n := by omega
      go_wp2
      go_quiet (fail)
      have Hb2 := Lib.hid (below_dn hb.out nq)
      go_wp2
      go_roundw
      case rel => exact ⟨k + 1, by omega, by go_num, Hb2⟩
      case measure => simp [intOf]; omega
    · obtain rfl : k = n := by omega
      go_wp2
      go_ret
      exact ⟨rfl, hb.out⟩
end Go.Proofs.YtgbhihenflooeaaDoor
