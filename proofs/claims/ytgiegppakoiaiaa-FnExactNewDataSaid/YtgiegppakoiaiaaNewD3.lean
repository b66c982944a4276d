/- NewData of spec: its region's invariant (after XNewD), l06Bools, l04Kinds. (Written by tools/gen_newd3.py.) -/
import Derived.Test.YtgiegppakoiaiaaNewD2
namespace Go.Proofs.Ytgiegppakoiaiaa
open Go.ChangeShapes Go.WideShapes Go.ChangeAt Go.RowKit
set_option linter.unusedVariables false
theorem l03Kind_any (n : Int) (w : World) : Calls Try.prog 22 #[.int .i64 n] w fun e w' => e = .returned (.bool (kindB n)) ∧ w = w' := by
  have h : Calls Try.prog 27 #[.int .i64 n, .int .i64 1, .int .i64 4] w fun e w' => e = .returned (.bool (kindB n)) ∧ w = w' := by
    go_enter Try.func27, Try.ntmps27
    go_wp2
    all_goals (go_ret; refine ⟨ev_rb ?_, rfl⟩; simp only [kindB]; rw [Bool.eq_iff_iff]; first | (simp; omega) | (simp; done))
  go_enter Try.func22, Try.ntmps22
  go_wp2_with (go_at_call 27; refine h.mono ?_; rintro e w' ⟨rfl, rfl⟩)
  go_ret
  exact ⟨rfl, rfl⟩
theorem l03Kind_is {n : Int} {b : Bool} (h : kindB n = b) (w : World) : Calls Try.prog 22 #[.int .i64 n] w fun e w' => e = .returned (.bool b) ∧ w = w' := h ▸ l03Kind_any n w
theorem l04Kinds_any (k : Option Addr) (c : Nat) (ks : List Int) (hm : ks.length ≤ maxLen) (w : World) (hz : Lies w k (kC ks)) : Calls Try.prog 12 #[.slice k ks.length c] w fun e w' => e = .returned (.bool (kindsB ks)) ∧ w = w' := by
  unfold maxLen at hm
  have HZ := Lib.hid hz
  have HK8 := Lib.hid (@kindsB_long ks)
  have HKN := Lib.hid (fun j (h : j < ks.length) g => kindsB_no (j := j) h g)
  have HKY := Lib.hid (@kindsB_yes ks)
  clear hz
  generalize kindsB ks = R at *
  generalize hL : ks.length = n at *
  have HL := Lib.hid hL
  clear hL
  by_cases h8 : 8 < n
  · have HR := Lib.hid (HK8.out h8)
    go_enter Try.func12, Try.ntmps12
    go_wp2
    go_ret
    exact ⟨by rw [HR.out]; rfl, rfl⟩
  go_enter Try.func12, Try.ntmps12
  go_wp2
  go_loop [3] (fun i => ∃ j : Nat, j ≤ n ∧ i = .int .i64 j ∧ Hid (∀ q, q < j → kindB (ks.getD q 0) = true)) (fun i => n - (intOf i).toNat)
  case atStart => exact ⟨0, Nat.zero_le _, rfl, Lib.hid (by intro q hq; omega)⟩
  case round =>
    obtain ⟨j, hj, rfl, hr⟩ := hrel
    by_cases hlt : j < n
    · obtain ⟨b, o, rfl, hbl, hcs⟩ := HZ.out.open (by rw [kC_len, HL.out]; omega)
      have c0 := kind_at hcs (i := j) (by rw [HL.out]; exact hlt)
      clear hcs
      cases hk : kindB (ks.getD j 0)
      · have HR := Lib.hid (HKN.out j hlt hk)
        have HC := Lib.hid hk
        clear hk
        generalize ks.getD j 0 = z at *
        go_wp2_with (go_at_call 22; refine (l03Kind_is HC.out _).mono ?_; rintro e w' ⟨rfl, rfl⟩)
        go_ret
        exact ⟨by rw [HR.out]; rfl, rfl⟩
      · have HC := Lib.hid hk
        have HN : Hid (∀ q, q < j + 1 → kindB (ks.getD q 0) = true) := Lib.hid (fun q hq => by
          by_cases e : q = j
          · rw [e]; exact HC.out
          · exact hr.out q (by omega))
        clear hk
        generalize ks.getD j 0 = z at *
        go_wp2_with (go_at_call 22; refine (l03Kind_is HC.out _).mono ?_; rintro e w' ⟨rfl, rfl⟩)
        go_round
        case rel => exact ⟨j + 1, by omega, by go_num, HN⟩
        case measure => simp [intOf]; omega
    · obtain rfl : j = n := by omega
      have HR := Lib.hid (HKY.out (by omega) hr.out)
      go_wp2
      go_ret
      exact ⟨by rw [HR.out]; rfl, rfl⟩
def BoolsPost (n : Nat) (w : World) (e : Ending) (w' : World) : Prop := ∃ a c, e = .returned (.slice a n c) ∧ w'.ownsRow w.heap.size 4 1 (.slice a n c) n (flat bI (List.replicate n false)) ∧ Below w.heap.size w w'
theorem rep_snoc (n : Nat) : flat bI (List.replicate n false) ++ [.bool false] = flat bI (List.replicate (n + 1) false) := by
  rw [List.replicate_succ', flat_snoc]
  rfl
theorem l06Bools_any (n : Nat) (hn : n ≤ 100) (w : World) : Calls Try.prog 23 #[.int .i64 n] w (BoolsPost n w) := by
  obtain ⟨i1, hi, hz0, hz1, hz2⟩ := info_parts (show (Try.prog.info? 4).map (fun i => (i.zero, i.size, i.bytes)) = some (some (.bool false), 1, 1) by kernel_rfl)
  have HJ := Lib.hid (And.intro hi (And.intro hz0 (And.intro hz1 hz2)))
  clear hi hz0 hz1 hz2
  have HR0 : Hid ((w.alloc (.cells #[] 4)).ownsRow w.heap.size 4 1 (.slice (some ⟨w.heap.size, 0, none⟩) 0 0) 0 (flat bI (List.replicate 0 false))) := Lib.hid (World.ownsRow_lit (base := w.heap.size) (e := 4) (size := 1) w #[] 0 (Nat.le_refl _) (Nat.zero_le _) rfl)
  have HB0 := Lib.hid ((Below.refl w.heap.size w).alloc (Nat.le_refl _) (.cells #[] 4))
  have HS := Lib.hid rep_snoc
  have HP : Hid (∀ a c w', w'.ownsRow w.heap.size 4 1 (.slice a n c) n (flat bI (List.replicate n false)) → Below w.heap.size w w' → BoolsPost n w (.returned (.slice a n c)) w') := Lib.hid (fun a c w' h1 h2 => ⟨a, c, rfl, h1, h2⟩)
  generalize BoolsPost n w = POST at *
  go_enter Try.func23, Try.ntmps23
  go_wp2
  go_loopw [3, 4] (fun s i wr => ∃ (k : Nat) (a : Option Addr) (c : Nat), k ≤ n ∧ i = .int .i64 k ∧ s = .slice a k c ∧ Hid (wr.ownsRow w.heap.size 4 1 (.slice a k c) k (flat bI (List.replicate k false))) ∧ Hid (Below w.heap.size w wr)) (fun _ i _ => n - (intOf i).toNat)
  case atStart => exact ⟨0, _, _, Nat.zero_le _, rfl, rfl, HR0, HB0⟩
  case round =>
    obtain ⟨k, a, c, hk, rfl, rfl, ho, hb⟩ := hrel
    by_cases hlt : k < n
    · have HX := Lib.hid (HS.out k)
      have hBr := hb.out.size
      go_wp2_with (at_builtin; go_must (refine wpList_append_own _ rfl (.tmp 11) (.tmp 12) _ rfl w.heap.size 4 i1 _ 1 1 Try.underlying24 HJ.out.1 HJ.out.2.1 HJ.out.2.2.1 HJ.out.2.2.2 rfl (by decide) (.slice a k c) k (flat bI (List.replicate k false)) rfl (ho.out.alloc _) ⟨wr.heap.size, 0, none⟩ 1 1 [.bool false] rfl rfl (nd_cells wr [.bool false] 4) (by simp [Value.oneCell']) (by unfold maxLen; omega) (by omega) (by simp; omega) ?_); intro v' w' g1 g2 _; obtain ⟨a', c', rfl⟩ := wk_slice g1; have G1 := Lib.hid g1; have G2 := Lib.hid ((hb.out.alloc hBr (.cells #[.bool false] 4)).grown g2 (by simp; omega) (fun g hg => (ho.out.lt g hg).1)); clear g1 g2)
      go_roundw
      case rel => exact ⟨k + 1, a', c', by omega, by go_num, rfl, HX.out ▸ G1, G2⟩
      case measure => simp [intOf]; omega
    · obtain rfl : k = n := by omega
      go_wp2
      exact HP.out _ _ _ ho.out hb.out
def sdSp (k : Nat) : Option RowSpec := if k = 0 then some ⟨3, 1, 16, kC (List.replicate 16 0)⟩ else if k = 1 then some ⟨37, 4, 0, []⟩ else if k < 6 then some ⟨4, 1, 8, flat bI (List.replicate 8 false)⟩ else none
def sdF (a : Act) (v : Nat → Value) : Act := (((((((a.put (some 5) (v 0)).put (some 6) (v 1)).put (some 7) (v 2)).put (some 8) (v 3)).put (some 9) (v 4)).put (some 10) (v 5)).put (some 11) (v 6)).put (some 3) (v 7)
def sdCells (f : Nat → Bool) (v : Nat → Value) : Array Value := if f 8 = true then #[v 0, v 1, v 2, v 3, v 4, v 5, .int .i64 0] else #[.slice none 0 0, .slice none 0 0, .slice none 0 0, .slice none 0 0, .slice none 0 0, .slice none 0 0, .int .i64 0]
structure SdK (W : World) (v : Nat → Value) (f : Nat → Bool) (w : World) : Prop where
  gi : GI (W.heap.size + 1) sdSp v f w
  bel : Below W.heap.size W w
  res : w.heap[W.heap.size]? = some zO
  h5 : f 6 = true → v 6 = .agg #[v 0, v 1, v 2, v 3, v 4, v 5, .int .i64 0] ∧ ∀ k, k < 6 → f k = true
  h6 : f 7 = true → ∃ g, v 7 = .pointer (some ⟨g, 0, none⟩) ∧ W.heap.size < g ∧ w.heap[g]? = some (.cells (sdCells f v) 26)
  h7 : f 8 = true → f 6 = true ∧ f 7 = true
def sdJ (W : World) (a0 : Act) (f : Nat → Bool) (a : Act) (w : World) : Prop := ∃ v : Nat → Value, a = sdF a0 v ∧ SdK W v f w
theorem SdK.make {W w w' : World} {v : Nat → Value} {f : Nat → Bool} {k : Nat} {s : RowSpec} {x : Value} (h : SdK W v f w) (hk : k < 6) (hf : f k = false) (hb : Below w.heap.size w w') (hs : sdSp k = some s) (ho : w'.ownsRow w.heap.size s.e s.size x s.n s.xs) :
    SdK W (upd v k x) (fun j => j == k || f j) w' := by
  have hsz := (Array.getElem?_eq_some_iff.1 h.res).1
  have n5 : f 6 = true → False := fun q => by have := (h.h5 q).2 k hk; rw [hf] at this; cases this
  refine ⟨h.gi.make hb hs hsz ho, h.bel.trans (hb.mono (Nat.le_of_lt hsz)), blk_b h.res hb, fun q => ?_, fun q => ?_, fun q => ?_⟩
  · rw [fo (by omega)] at q
    exact (n5 q).elim
  · rw [fo (by omega)] at q
    obtain ⟨g, e, hg, hh⟩ := h.h6 q
    refine ⟨g, by rw [upd_ne (by omega)]; exact e, hg, ?_⟩
    have n7 : f 8 ≠ true := fun q => n5 (h.h7 q).1
    have e1 : sdCells (fun j => j == k || f j) (upd v k x) = sdCells f v := by
      unfold sdCells
      rw [if_neg n7, if_neg (by simp only; rw [fo (by omega)]; exact n7)]
    rw [e1]
    exact blk_b hh hb
  · rw [fo (by omega)] at q
    exact (n5 (h.h7 q).1).elim
theorem SdK.build {W w : World} {v : Nat → Value} {f : Nat → Bool} (h : SdK W v f w) (h04 : ∀ k, k < 6 → f k = true) (hf : f 6 = false) : SdK W (upd v 6 (.agg #[v 0, v 1, v 2, v 3, v 4, v 5, .int .i64 0])) (fun j => j == 6 || f j) w := by
  refine ⟨h.gi.other (Below.refl _ _) rfl, h.bel, h.res, fun q => ⟨rfl, fun k hk => by rw [fo (by omega)]; exact h04 k hk⟩, fun q => ?_, fun q => ?_⟩
  · rw [fo (by omega)] at q
    obtain ⟨g, e, hg, hh⟩ := h.h6 q
    have n7 : f 8 ≠ true := fun q => by have := (h.h7 q).1; rw [hf] at this; cases this
    refine ⟨g, e, hg, ?_⟩
    have e1 : sdCells (fun j => j == 6 || f j) (upd v 6 (.agg #[v 0, v 1, v 2, v 3, v 4, v 5, .int .i64 0])) = sdCells f v := by
      unfold sdCells
      rw [if_neg n7, if_neg (by simp only; rw [fo (by omega)]; exact n7)]
    rw [e1]
    exact hh
  · rw [fo (by omega)] at q
    exact absurd (h.h7 q).1 (by rw [hf]; simp)
theorem SdK.boxed {W w : World} {v : Nat → Value} {f : Nat → Bool} (h : SdK W v f w) (hf : f 7 = false) : SdK W (upd v 7 (.pointer (some ⟨w.heap.size, 0, none⟩))) (fun j => j == 7 || f j) (w.alloc zO) := by
  have hsz := (Array.getElem?_eq_some_iff.1 h.res).1
  have hb : Below w.heap.size w (w.alloc zO) := (Below.refl w.heap.size w).alloc (Nat.le_refl _) zO
  have n7 : f 8 ≠ true := fun q => by have := (h.h7 q).2; rw [hf] at this; cases this
  refine ⟨h.gi.other hb rfl, h.bel.trans (hb.mono (Nat.le_of_lt hsz)), blk_b h.res hb, fun q => ?_, fun q => ⟨w.heap.size, rfl, hsz, ?_⟩, fun q => ?_⟩
  · rw [fo (by omega)] at q
    exact ⟨(h.h5 q).1, fun k hk => by rw [fo (by omega)]; exact (h.h5 q).2 k hk⟩
  · unfold sdCells
    rw [if_neg (by simp only; rw [fo (by omega)]; exact n7)]
    exact heap_alloc_new w zO
  · rw [fo (by omega)] at q
    exact absurd q n7
theorem sd_type {k : Nat} {s : RowSpec} (h : sdSp k = some s) : s.e = 3 ∨ s.e = 4 ∨ s.e = 37 := by
  unfold sdSp at h
  split at h
  · simp only [Option.some.injEq] at h; subst h; exact .inl rfl
  · split at h
    · simp only [Option.some.injEq] at h; subst h; exact .inr (.inr rfl)
    · split at h
      · simp only [Option.some.injEq] at h; subst h; exact .inr (.inl rfl)
      · cases h
theorem SdK.stored1 {W w : World} {v : Nat → Value} {f : Nat → Bool} {g i : Nat} {cs : Array Value} {x : Value} (gi : GI (W.heap.size + 1) sdSp v f w) (hg : w.heap[g]? = some (.cells cs 26)) : GI (W.heap.size + 1) sdSp v f (w.setCell ⟨g, i, none⟩ x) ∧ (w.setCell ⟨g, i, none⟩ x).heap[g]? = some (.cells (cs.setIfInBounds i x) 26) :=
  ⟨⟨fun k s hs hf => ownsRow_setCell_other (gi.row k s hs hf) (own_ne (gi.row k s hs hf) hg (by rcases sd_type hs with e | e | e <;> rw [e] <;> decide)) _, gi.dis⟩, wk_set hg i x⟩
theorem SdK.stored {W w : World} {v : Nat → Value} {f : Nat → Bool} {g : Nat} (h : SdK W v f w) (f5 : f 6 = true) (f6 : f 7 = true) (hf : f 8 = false) (hv : v 7 = .pointer (some ⟨g, 0, none⟩)) :
    SdK W (upd v 8 undef) (fun j => j == 8 || f j) (set7 w g (v 0) (v 1) (v 2) (v 3) (v 4) (v 5) (.int .i64 0)) := by
  obtain ⟨g', e, hg, hh⟩ := h.h6 f6
  rw [hv] at e
  simp only [Value.pointer.injEq, Option.some.injEq, Addr.mk.injEq, and_true] at e
  subst e
  unfold sdCells at hh
  rw [if_neg (by rw [hf]; simp)] at hh
  obtain ⟨g0, k0⟩ := SdK.stored1 (i := 0) (x := v 0) h.gi hh
  obtain ⟨g1, k1⟩ := SdK.stored1 (i := 1) (x := v 1) g0 k0
  obtain ⟨g2, k2⟩ := SdK.stored1 (i := 2) (x := v 2) g1 k1
  obtain ⟨g3, k3⟩ := SdK.stored1 (i := 3) (x := v 3) g2 k2
  obtain ⟨g4, k4⟩ := SdK.stored1 (i := 4) (x := v 4) g3 k3
  obtain ⟨g5, k5⟩ := SdK.stored1 (i := 5) (x := v 5) g4 k4
  obtain ⟨g6, k6⟩ := SdK.stored1 (i := 6) (x := .int .i64 0) g5 k5
  have hr : ∀ {X : World} {i : Nat} {x : Value}, X.heap[W.heap.size]? = some zO → (X.setCell ⟨g, i, none⟩ x).heap[W.heap.size]? = some zO := fun hX => (Below.heap_setCell _ _ _ _ (by simp only; omega)).trans hX
  have hgB : W.heap.size ≤ g := by omega
  refine ⟨⟨fun k s hs hq => ?_, fun j k s t h1 h2 h3 q1 q2 => ?_⟩, ?_, hr (hr (hr (hr (hr (hr (hr h.res)))))), fun q => ?_, fun q => ⟨g, hv, hg, ?_⟩, fun q => ⟨by simpa using f5, by simpa using f6⟩⟩
  · have hk7 : k ≠ 8 := fun e => by subst e; cases hs
    rw [upd_ne hk7]
    exact g6.row k s hs (by rw [fo hk7] at hq; exact hq)
  · have hk7 : k ≠ 8 := fun e => by subst e; cases h2
    have hj7 : j ≠ 8 := fun e => by subst e; cases h1
    rw [upd_ne hk7, upd_ne hj7]
    exact g6.dis j k s t h1 h2 h3 (by rw [fo hj7] at q1; exact q1) (by rw [fo hk7] at q2; exact q2)
  · exact ((((((h.bel.setCell (p := ⟨g, 0, none⟩) hgB _).setCell (p := ⟨g, 1, none⟩) hgB _).setCell (p := ⟨g, 2, none⟩) hgB _).setCell (p := ⟨g, 3, none⟩) hgB _).setCell (p := ⟨g, 4, none⟩) hgB _).setCell (p := ⟨g, 5, none⟩) hgB _).setCell (p := ⟨g, 6, none⟩) hgB _
  · exact ⟨(h.h5 f5).1, fun k hk => by rw [fo (by omega)]; exact (h.h5 f5).2 k hk⟩
  · simp only [sdCells, show ((8 : Nat) == 8 || f 8) = true from rfl, if_true]
    simpa [upd] using k6
structure SdS (W w : World) (v : Nat → Value) (f : Nat → Bool) (b0 b1 b2 b3 b4 b5 : Option Addr) (d0 d1 d2 d3 d4 d5 g : Nat) : Prop where
  e0 : v 0 = .slice b0 16 d0
  e1 : v 1 = .slice b1 0 d1
  e2 : v 2 = .slice b2 8 d2
  e3 : v 3 = .slice b3 8 d3
  e4 : v 4 = .slice b4 8 d4
  e5 : v 5 = .slice b5 8 d5
  v6 : v 6 = .agg #[.slice b0 16 d0, .slice b1 0 d1, .slice b2 8 d2, .slice b3 8 d3, .slice b4 8 d4, .slice b5 8 d5, .int .i64 0]
  v7 : v 7 = .pointer (some ⟨g, 0, none⟩)
  hc : w.heap[g]? = some zO
  next : SdK W (upd v 8 undef) (fun j => j == 8 || f j) (set7 w g (.slice b0 16 d0) (.slice b1 0 d1) (.slice b2 8 d2) (.slice b3 8 d3) (.slice b4 8 d4) (.slice b5 8 d5) (.int .i64 0))
theorem SdK.use {W w : World} {v : Nat → Value} {f : Nat → Bool} {G : Prop} (h : SdK W v f w) (f5 : f 6 = true) (f6 : f 7 = true) (hf : f 8 = false) (k : ∀ b0 b1 b2 b3 b4 b5 d0 d1 d2 d3 d4 d5 g, SdS W w v f b0 b1 b2 b3 b4 b5 d0 d1 d2 d3 d4 d5 g → G) : G := by
  have h5 := h.h5 f5
  have h04 := h5.2
  obtain ⟨g, v6, hg, hc⟩ := h.h6 f6
  obtain ⟨b0, d0, e0⟩ := wk_slice (h.gi.row 0 _ rfl (h04 0 (by omega)))
  obtain ⟨b1, d1, e1⟩ := wk_slice (h.gi.row 1 _ rfl (h04 1 (by omega)))
  obtain ⟨b2, d2, e2⟩ := wk_slice (h.gi.row 2 _ rfl (h04 2 (by omega)))
  obtain ⟨b3, d3, e3⟩ := wk_slice (h.gi.row 3 _ rfl (h04 3 (by omega)))
  obtain ⟨b4, d4, e4⟩ := wk_slice (h.gi.row 4 _ rfl (h04 4 (by omega)))
  obtain ⟨b5, d5, e5⟩ := wk_slice (h.gi.row 5 _ rfl (h04 5 (by omega)))
  have hn := h.stored f5 f6 hf v6
  have v5 := h5.1
  unfold sdCells at hc
  rw [if_neg (by rw [hf]; simp)] at hc
  rw [e0, e1, e2, e3, e4, e5] at v5 hn
  exact k b0 b1 b2 b3 b4 b5 d0 d1 d2 d3 d4 d5 g ⟨e0, e1, e2, e3, e4, e5, v5, v6, hc, hn⟩
structure SdE (W w : World) (v : Nat → Value) (b0 b1 b2 b3 b4 b5 : Option Addr) (d0 d1 d2 d3 d4 d5 g : Nat) : Prop where
  e0 : v 0 = .slice b0 16 d0
  e1 : v 1 = .slice b1 0 d1
  e2 : v 2 = .slice b2 8 d2
  e3 : v 3 = .slice b3 8 d3
  e4 : v 4 = .slice b4 8 d4
  e5 : v 5 = .slice b5 8 d5
  v6 : v 6 = .agg #[.slice b0 16 d0, .slice b1 0 d1, .slice b2 8 d2, .slice b3 8 d3, .slice b4 8 d4, .slice b5 8 d5, .int .i64 0]
  v7 : v 7 = .pointer (some ⟨g, 0, none⟩)
  at0 : NdL W g (.slice b0 16 d0) (.slice b2 8 d2) (.slice b3 8 d3) (.slice b4 8 d4) (.slice b5 8 d5) (.slice b1 0 d1) 0 [] w
  ap : Apart4 (.slice b2 8 d2) (.slice b3 8 d3) (.slice b4 8 d4) (.slice b5 8 d5)
theorem SdK.fin {W w : World} {v : Nat → Value} {f : Nat → Bool} {G : Prop} (h : SdK W v f w) (hall : ∀ i, i < 9 → f i = true) (k : ∀ b0 b1 b2 b3 b4 b5 d0 d1 d2 d3 d4 d5 g, SdE W w v b0 b1 b2 b3 b4 b5 d0 d1 d2 d3 d4 d5 g → G) : G := by
  have f0 := hall 0 (by omega)
  have f1 := hall 1 (by omega)
  have f2 := hall 2 (by omega)
  have f3 := hall 3 (by omega)
  have f4 := hall 4 (by omega)
  have f5 := hall 5 (by omega)
  obtain ⟨v6, _⟩ := h.h5 (hall 6 (by omega))
  obtain ⟨g, v7, hg, hc⟩ := h.h6 (hall 7 (by omega))
  have r0 := h.gi.row 0 _ rfl f0
  have r1 := h.gi.row 1 _ rfl f1
  have r2 := h.gi.row 2 _ rfl f2
  have r3 := h.gi.row 3 _ rfl f3
  have r4 := h.gi.row 4 _ rfl f4
  have r5 := h.gi.row 5 _ rfl f5
  have a12 := h.gi.dis 2 3 _ _ rfl rfl (by decide) f2 f3
  have a13 := h.gi.dis 2 4 _ _ rfl rfl (by decide) f2 f4
  have a14 := h.gi.dis 2 5 _ _ rfl rfl (by decide) f2 f5
  have a23 := h.gi.dis 3 4 _ _ rfl rfl (by decide) f3 f4
  have a24 := h.gi.dis 3 5 _ _ rfl rfl (by decide) f3 f5
  have a34 := h.gi.dis 4 5 _ _ rfl rfl (by decide) f4 f5
  obtain ⟨b0, d0, e0⟩ := wk_slice r0
  obtain ⟨b1, d1, e1⟩ := wk_slice r1
  obtain ⟨b2, d2, e2⟩ := wk_slice r2
  obtain ⟨b3, d3, e3⟩ := wk_slice r3
  obtain ⟨b4, d4, e4⟩ := wk_slice r4
  obtain ⟨b5, d5, e5⟩ := wk_slice r5
  unfold sdCells at hc
  rw [if_pos (hall 8 (by omega))] at hc
  rw [e0, e1, e2, e3, e4, e5] at v6 hc
  rw [e0] at r0
  rw [e1] at r1
  rw [e2] at r2
  rw [e3] at r3
  rw [e4] at r4
  rw [e5] at r5
  rw [e2, e3] at a12
  rw [e2, e4] at a13
  rw [e2, e5] at a14
  rw [e3, e4] at a23
  rw [e3, e5] at a24
  rw [e4, e5] at a34
  exact k b0 b1 b2 b3 b4 b5 d0 d1 d2 d3 d4 d5 g ⟨e0, e1, e2, e3, e4, e5, v6, v7, ⟨h.bel, h.res, hg, hc, r0, r2, r3, r4, r5, r1⟩, ⟨a12, a13, a14, a23, a24, a34⟩⟩
theorem sdF_p0 (a : Act) (v : Nat → Value) (x : Value) : (sdF a v).put (some 5) x = sdF a (upd v 0 x) := by
  unfold sdF
  rw [put_comm _ (i := 3) (j := 5) (by decide), put_comm _ (i := 11) (j := 5) (by decide), put_comm _ (i := 10) (j := 5) (by decide), put_comm _ (i := 9) (j := 5) (by decide), put_comm _ (i := 8) (j := 5) (by decide), put_comm _ (i := 7) (j := 5) (by decide), put_comm _ (i := 6) (j := 5) (by decide), put_put]
  rfl
theorem sdF_p1 (a : Act) (v : Nat → Value) (x : Value) : (sdF a v).put (some 6) x = sdF a (upd v 1 x) := by
  unfold sdF
  rw [put_comm _ (i := 3) (j := 6) (by decide), put_comm _ (i := 11) (j := 6) (by decide), put_comm _ (i := 10) (j := 6) (by decide), put_comm _ (i := 9) (j := 6) (by decide), put_comm _ (i := 8) (j := 6) (by decide), put_comm _ (i := 7) (j := 6) (by decide), put_put]
  rfl
theorem sdF_p2 (a : Act) (v : Nat → Value) (x : Value) : (sdF a v).put (some 7) x = sdF a (upd v 2 x) := by
  unfold sdF
  rw [put_comm _ (i := 3) (j := 7) (by decide), put_comm _ (i := 11) (j := 7) (by decide), put_comm _ (i := 10) (j := 7) (by decide), put_comm _ (i := 9) (j := 7) (by decide), put_comm _ (i := 8) (j := 7) (by decide), put_put]
  rfl
theorem sdF_p3 (a : Act) (v : Nat → Value) (x : Value) : (sdF a v).put (some 8) x = sdF a (upd v 3 x) := by
  unfold sdF
  rw [put_comm _ (i := 3) (j := 8) (by decide), put_comm _ (i := 11) (j := 8) (by decide), put_comm _ (i := 10) (j := 8) (by decide), put_comm _ (i := 9) (j := 8) (by decide), put_put]
  rfl
theorem sdF_p4 (a : Act) (v : Nat → Value) (x : Value) : (sdF a v).put (some 9) x = sdF a (upd v 4 x) := by
  unfold sdF
  rw [put_comm _ (i := 3) (j := 9) (by decide), put_comm _ (i := 11) (j := 9) (by decide), put_comm _ (i := 10) (j := 9) (by decide), put_put]
  rfl
theorem sdF_p5 (a : Act) (v : Nat → Value) (x : Value) : (sdF a v).put (some 10) x = sdF a (upd v 5 x) := by
  unfold sdF
  rw [put_comm _ (i := 3) (j := 10) (by decide), put_comm _ (i := 11) (j := 10) (by decide), put_put]
  rfl
end Go.Proofs.Ytgiegppakoiaiaa
