/- ReadCode of impl and of spec, and the laws on it. -/
import Derived.Test.YtgbhihenflooeaaDoorInsRow
import Derived.Test.YtgbhihenflooeaaDoorTake
import Derived.Test.YtgbhihenflooeaaDoorCodeI
import Derived.Deep.DeepMust
import Derived.PlainAid
import Derived.Outline
namespace Go.Proofs.YtgbhihenflooeaaDoor
open Go.ChangeShapes Go.WideShapes Go.ChangeAt Go.RowKit Go.PlainAid
/-- What stands at a place: the instruction, its size, the code. -/
def takeX (s : ByteArray) (p : Nat) : (Int × Int) × Nat × Int :=
  if opB (bt s p) = false then ((0, 0), 0, 11)
  else if opHas (bt s p).toNat = false then ((bt s p, 0), 1, 0)
  else if s.size < p + 5 then ((0, 0), 0, 16)
  else if okB (bt s p) (takeF s (p + 1) 4) = false then ((0, 0), 0, 4)
  else ((bt s p, takeF s (p + 1) 4), 5, 0)
theorem takeX_op {s : ByteArray} {p : Nat} (h : opB (bt s p) = false) : takeX s p = ((0, 0), 0, 11) := if_pos h
theorem takeX_bare {s : ByteArray} {p : Nat} (h : opB (bt s p) = true) (g : opHas (bt s p).toNat = false) : takeX s p = ((bt s p, 0), 1, 0) := by unfold takeX; rw [if_neg (by simp [h]), if_pos g]
theorem takeX_end {s : ByteArray} {p : Nat} (h : opB (bt s p) = true) (g : opHas (bt s p).toNat = true) (k : s.size < p + 5) : takeX s p = ((0, 0), 0, 16) := by unfold takeX; rw [if_neg (by simp [h]), if_neg (by simp [g]), if_pos k]
theorem takeX_rng {s : ByteArray} {p : Nat} (h : opB (bt s p) = true) (g : opHas (bt s p).toNat = true) (k : ¬ s.size < p + 5) (j : okB (bt s p) (takeF s (p + 1) 4) = false) : takeX s p = ((0, 0), 0, 4) := by unfold takeX; rw [if_neg (by simp [h]), if_neg (by simp [g]), if_neg k, if_pos j]
theorem takeX_ok {s : ByteArray} {p : Nat} (h : opB (bt s p) = true) (g : opHas (bt s p).toNat = true) (k : ¬ s.size < p + 5) (j : okB (bt s p) (takeF s (p + 1) 4) = true) : takeX s p = ((bt s p, takeF s (p + 1) 4), 5, 0) := by unfold takeX; rw [if_neg (by simp [h]), if_neg (by simp [g]), if_neg k, if_neg (by simp [j])]
theorem takeX_size (s : ByteArray) (p : Nat) (h : (takeX s p).2.2 = 0) : 1 ≤ (takeX s p).2.1 ∧ (takeX s p).2.1 ≤ 5 := by
  unfold takeX at *
  repeat' split at h
  all_goals first | (simp at h; done) | (simp only [*, if_true, if_false]; simp) | simp_all
/-- The rest of the text, from a place on, behind what has been read. -/
def goR (s : ByteArray) : Nat → Nat → List (Int × Int) → List (Int × Int) × Int
  | 0, _, zs => (zs, 0)
  | f + 1, p, zs => if p < s.size then (if (takeX s p).2.2 ≠ 0 then ([], (takeX s p).2.2) else if zs.length = 40 then ([], 6) else goR s f (p + (takeX s p).2.1) (zs ++ [(takeX s p).1])) else (zs, 0)
def readF (s : ByteArray) : List (Int × Int) × Int := if 65536 < s.size then ([], 2) else goR s s.size 0 []
theorem readF_long {s : ByteArray} (h : 65536 < s.size) : readF s = ([], 2) := if_pos h
theorem goR_end {s : ByteArray} {f p : Nat} {zs : List (Int × Int)} (h : ¬ p < s.size) : goR s f p zs = (zs, 0) := by
  cases f with
  | zero => rfl
  | succ f => rw [goR, if_neg h]
def AtR (s : ByteArray) (p : Nat) (zs : List (Int × Int)) : Prop := ∃ f, s.size ≤ p + f ∧ readF s = goR s f p zs
theorem atR_zero {s : ByteArray} (h : ¬ 65536 < s.size) : AtR s 0 [] := ⟨s.size, by omega, if_neg h⟩
theorem AtR.fin {s : ByteArray} {p : Nat} {zs : List (Int × Int)} (h : AtR s p zs) (g : ¬ p < s.size) : readF s = (zs, 0) := by
  obtain ⟨f, _, e⟩ := h
  rw [e, goR_end g]
theorem AtR.err {s : ByteArray} {p : Nat} {zs : List (Int × Int)} (h : AtR s p zs) (g : p < s.size) {x : Int × Int} {m : Nat} {c : Int} (hx : takeX s p = (x, m, c)) (hc : c ≠ 0) : readF s = ([], c) := by
  obtain ⟨f, hf, e⟩ := h
  cases f with
  | zero => omega
  | succ f => rw [e, goR, if_pos g, hx, if_pos hc]
theorem AtR.many {s : ByteArray} {p : Nat} {zs : List (Int × Int)} (h : AtR s p zs) (g : p < s.size) {x : Int × Int} {m : Nat} (hx : takeX s p = (x, m, 0)) (hz : zs.length = 40) : readF s = ([], 6) := by
  obtain ⟨f, hf, e⟩ := h
  cases f with
  | zero => omega
  | succ f => rw [e, goR, if_pos g, hx, if_neg (by simp), if_pos hz]
theorem AtR.step {s : ByteArray} {p : Nat} {zs : List (Int × Int)} (h : AtR s p zs) (g : p < s.size) {x : Int × Int} {m : Nat} (hx : takeX s p = (x, m, 0)) (hz : zs.length ≠ 40) : AtR s (p + m) (zs ++ [x]) := by
  obtain ⟨f, hf, e⟩ := h
  have hs := takeX_size s p (by rw [hx])
  rw [hx] at hs
  cases f with
  | zero => omega
  | succ f =>
    refine ⟨f, by simp at hs; omega, ?_⟩
    rw [e, goR, if_pos g, hx, if_neg (by simp), if_neg hz]
theorem keep_free {w w1 : World} {x y : Value} {t : TypeId} (hb : Below (w.alloc (.cells #[x, y] t)).heap.size (w.alloc (.cells #[x, y] t)) w1) : w1.frozen? ⟨w.heap.size, 0, none⟩ = false ∧ w1.frozen? ⟨w.heap.size, 1, none⟩ = false := by
  have hk : w1.heap[w.heap.size]? = some (.cells #[x, y] t (0, 0)) := (hb.block w.heap.size (by simp)).trans (heap_alloc_new w _)
  exact ⟨frozen_of_row _ _ 0 _ _ hk, frozen_of_row _ _ 1 _ _ hk⟩
theorem cell_two_nw (w : World) (x y : Value) (t : TypeId) : ∀ (j : Nat) u, [x, y][j]? = some u → (w.alloc (.cells #[x, y] t)).cell? ((⟨w.heap.size, 0, none⟩ : Addr).add j) = some u := by
  intro j u hj
  match j, hj with
  | 0, hj => simp at hj; subst hj; exact cell_of_row _ _ 0 _ _ _ (heap_alloc_new w _)
  | 1, hj => simp at hj; subst hj; exact cell_of_row _ _ 1 _ _ _ (heap_alloc_new w _)
  | j + 2, hj => simp at hj
theorem own_slice {w : World} {B size n : Nat} {e : TypeId} {v : Value} {xs : List Value} (h : w.ownsRow B e size v n xs) : ∃ a c, v = .slice a n c := by
  rcases own_form h with ⟨rfl, rfl⟩ | ⟨g, c, rfl⟩
  · exact ⟨_, _, rfl⟩
  · exact ⟨_, _, rfl⟩
theorem ret_taken {a b c d e f g h : Int} (h1 : a = b) (h2 : c = d) (h3 : e = f) (h4 : g = h) : Ending.returned (.tuple #[.agg #[.int .i64 a, .int .i64 c], .int .i64 e, .int .i64 g]) = .returned (.tuple #[.agg #[.int .i64 b, .int .i64 d], .int .i64 f, .int .i64 h]) := by rw [h1, h2, h3, h4]
theorem bt_op (s : ByteArray) (p : Nat) (h : opB (bt s p) = true) : ∃ k : Nat, bt s p = (k : Int) ∧ 1 ≤ k ∧ k ≤ 26 := opB_nat h
set_option maxRecDepth 100000 in
theorem takeInstr_any (s : ByteArray) (p : Nat) (hs : s.size ≤ 65536) (hp : p < s.size) (aR bE : Addr) (w : World) (hT : OpTab w) (hS : Sent w aR bE) (x y c : Int) (m : Nat) (hx : takeX s p = ((x, y), m, c)) :
    Calls Tryd.prog 41 #[.string s, .int .i64 (p : Int)] w fun e w' => e = .returned (.tuple #[.agg #[.int .i64 x, .int .i64 y], .int .i64 (m : Int), .int .i64 c]) ∧ Below w.heap.size w w' := by
  have hg := get_bt s
  have Hb := Lib.hid ((Below.refl w.heap.size w).alloc (Nat.le_refl _) (.cells #[.int .i64 0, .int .i64 0] 39))
  have b0 := bt_nonneg s p
  have b1 := bt_le s p
  have HT := Lib.hid (hT.below Hb.out (Nat.le_refl _))
  have HS := Lib.hid (hS.below Hb.out)
  clear hT hS
  cases ho : opB (bt s p)
  · have HO := Lib.hid (fun w => isOp_no ho w)
    rw [takeX_op ho] at hx
    simp only [Prod.mk.injEq] at hx
    obtain ⟨⟨rfl, rfl⟩, rfl, rfl⟩ := hx
    clear ho
    go_enter Tryd.func41, Tryd.ntmps41
    go_wp2_with (go_at_call 74; refine (HO.out _).mono ?_; rintro e w' ⟨rfl, rfl⟩)
    exact bodyPost_ret (v := .tuple #[.agg #[.int .i64 0, .int .i64 0], .int .i64 0, .int .i64 11]) (by simp [results, Tryd.results41, go_sem]) rfl ⟨rfl, Hb.out⟩
  · obtain ⟨q, hq, q1, q2⟩ := opB_nat ho
    have HO := Lib.hid (fun w => isOp_yes ho w)
    cases hh : opHas q
    · rw [takeX_bare ho (by rw [hq]; exact hh)] at hx
      simp only [Prod.mk.injEq] at hx
      obtain ⟨⟨rfl, rfl⟩, rfl, rfl⟩ := hx
      have HH := Lib.hid (fun w ht => hh ▸ hasOperand_any q (by omega) w ht)
      rw [← hq] at HH
      clear ho hh hq
      go_enter Tryd.func41, Tryd.ntmps41
      go_wp2_with first | (go_at_call 74; refine (HO.out _).mono ?_; rintro e w' ⟨rfl, rfl⟩) | (go_at_call 75; refine (HH.out _ HT.out).mono ?_; rintro e w' ⟨rfl, rfl⟩)
      exact bodyPost_ret (v := .tuple #[.agg #[.int .i64 (bt s p), .int .i64 0], .int .i64 1, .int .i64 0]) (by simp [results, Tryd.results41, go_sem]) rfl ⟨rfl, (Below.refl w.heap.size w).alloc (Nat.le_refl _) _⟩
    · have HH := Lib.hid (fun w ht => hh ▸ hasOperand_any q (by omega) w ht)
      rw [← hq] at HH
      have hh' : opHas (bt s p).toNat = true := by rw [hq]; exact hh
      have hN := fun w hS => takeNumber_any s hs ((p : Int) + 1) 4 aR bE w hS
      by_cases hk : s.size < p + 5
      · rw [takeX_end ho hh' hk] at hx
        simp only [Prod.mk.injEq] at hx
        obtain ⟨⟨rfl, rfl⟩, rfl, rfl⟩ := hx
        rw [takeN_end (by decide) (by omega), takeC_end (by decide) (by omega)] at hN
        have HN := Lib.hid hN
        clear ho hh hh' hq hN
        go_enter Tryd.func41, Tryd.ntmps41
        go_wp2_with first | (go_at_call 74; refine (HO.out _).mono ?_; rintro e w' ⟨rfl, rfl⟩) | (go_at_call 75; refine (HH.out _ HT.out).mono ?_; rintro e w' ⟨rfl, rfl⟩) | (go_at_call 79; refine (HN.out _ HS.out).mono ?_; rintro e w2 ⟨rfl, hb2⟩; have HB2 := Lib.hid hb2; have Hb2 := Lib.hid (Hb.out.trans (hb2.mono Hb.out.size)); obtain ⟨c0, c1⟩ := keep_two hb2; obtain ⟨f0, f1⟩ := keep_free hb2; clear hb2)
        have hz := HB2.out.size
        refine bodyPost_ret (v := .tuple #[.agg #[.int .i64 0, .int .i64 0], .int .i64 0, .int .i64 16]) (by simp [results, Tryd.results41, go_sem, c0, c1]) rfl ⟨rfl, ?_⟩
        exact (Hb2.out.setCell (p := ⟨w.heap.size, 0, none⟩) (Nat.le_refl _) _).setCell (p := ⟨w.heap.size, 1, none⟩) (Nat.le_refl _) _
      · rw [takeN_ok (by decide) (by omega), takeC_ok (by decide) (by omega), show ((p : Int) + 1).toNat = p + 1 by omega] at hN
        have HN := Lib.hid hN
        clear hN
        cases hj : okB (bt s p) (takeF s (p + 1) 4)
        · rw [takeX_rng ho hh' hk hj] at hx
          simp only [Prod.mk.injEq] at hx
          obtain ⟨⟨rfl, rfl⟩, rfl, rfl⟩ := hx
          have HK := Lib.hid (fun w ht => hj ▸ instrOK_any (bt s p) (takeF s (p + 1) 4) w ht)
          clear ho hh hh' hq hj
          generalize takeF s (p + 1) 4 = y at *
          go_enter Tryd.func41, Tryd.ntmps41
          go_wp2_with first | (go_at_call 74; refine (HO.out _).mono ?_; rintro e w' ⟨rfl, rfl⟩) | (go_at_call 75; refine (HH.out _ HT.out).mono ?_; rintro e w' ⟨rfl, rfl⟩) | (go_at_call 79; refine (HN.out _ HS.out).mono ?_; rintro e w2 ⟨rfl, hb2⟩; have HB2 := Lib.hid hb2; have Hb2 := Lib.hid (Hb.out.trans (hb2.mono Hb.out.size)); have hz := hb2.size; clear hb2; have Ha := Lib.hid ((Below.refl w2.heap.size w2).alloc (Nat.le_refl _) (.cells #[.int .i64 (bt s p), .int .i64 y] 39))) | (go_at_call 37; refine (HK.out _ ((HT.out.below HB2.out (Nat.le_refl _)).below Ha.out (Nat.le_refl _))).mono ?_; rintro e w3 ⟨rfl, hb3⟩; have HB3 := Lib.hid (Ha.out.trans (hb3.mono Ha.out.size)); obtain ⟨c0, c1⟩ := keep_two (HB2.out.trans (HB3.out.mono HB2.out.size)); obtain ⟨f0, f1⟩ := keep_free (HB2.out.trans (HB3.out.mono HB2.out.size)); have Hb3 := Lib.hid (Hb2.out.trans (HB3.out.mono Hb2.out.size)); have hz3 := HB3.out.size; clear hb3)
          refine bodyPost_ret (v := .tuple #[.agg #[.int .i64 0, .int .i64 0], .int .i64 0, .int .i64 4]) (by simp [results, Tryd.results41, go_sem, c0, c1]) rfl ⟨rfl, ?_⟩
          exact (Hb3.out.setCell (p := ⟨w.heap.size, 0, none⟩) (Nat.le_refl _) _).setCell (p := ⟨w.heap.size, 1, none⟩) (Nat.le_refl _) _
        · rw [takeX_ok ho hh' hk hj] at hx
          simp only [Prod.mk.injEq] at hx
          obtain ⟨⟨rfl, rfl⟩, rfl, rfl⟩ := hx
          have HK := Lib.hid (fun w ht => hj ▸ instrOK_any (bt s p) (takeF s (p + 1) 4) w ht)
          clear ho hh hh' hq hj
          generalize takeF s (p + 1) 4 = y at *
          go_enter Tryd.func41, Tryd.ntmps41
          go_wp2_with first | (go_at_call 74; refine (HO.out _).mono ?_; rintro e w' ⟨rfl, rfl⟩) | (go_at_call 75; refine (HH.out _ HT.out).mono ?_; rintro e w' ⟨rfl, rfl⟩) | (go_at_call 79; refine (HN.out _ HS.out).mono ?_; rintro e w2 ⟨rfl, hb2⟩; have HB2 := Lib.hid hb2; have Hb2 := Lib.hid (Hb.out.trans (hb2.mono Hb.out.size)); have hz := hb2.size; clear hb2; have Ha := Lib.hid ((Below.refl w2.heap.size w2).alloc (Nat.le_refl _) (.cells #[.int .i64 (bt s p), .int .i64 y] 39))) | (go_at_call 37; refine (HK.out _ ((HT.out.below HB2.out (Nat.le_refl _)).below Ha.out (Nat.le_refl _))).mono ?_; rintro e w3 ⟨rfl, hb3⟩; have HB3 := Lib.hid (Ha.out.trans (hb3.mono Ha.out.size)); obtain ⟨c0, c1⟩ := keep_two (HB2.out.trans (HB3.out.mono HB2.out.size)); obtain ⟨d0, d1⟩ := keep_two hb3; obtain ⟨f0, f1⟩ := keep_free (HB2.out.trans (HB3.out.mono HB2.out.size)); have Hb3 := Lib.hid (Hb2.out.trans (HB3.out.mono Hb2.out.size)); have hz3 := HB3.out.size; clear hb3)
          refine bodyPost_ret (v := .tuple #[.agg #[.int .i64 (bt s p), .int .i64 y], .int .i64 5, .int .i64 0]) (by simp [results, Tryd.results41, go_sem, c0, c1]) rfl ⟨rfl, ?_⟩
          exact (Hb3.out.setCell (p := ⟨w.heap.size, 0, none⟩) (Nat.le_refl _) _).setCell (p := ⟨w.heap.size, 1, none⟩) (Nat.le_refl _) _
/-- What both readers hand back: a row of the call's own, and the code. -/
def RdPost (W0 : World) (zs : List (Int × Int)) (c : Int) (e : Ending) (w' : World) : Prop :=
  ∃ v, e = .returned (.tuple #[v, .int .i64 c]) ∧ w'.ownsRow W0.heap.size 39 2 v zs.length (flat insC zs) ∧ Below W0.heap.size W0 w'
theorem rd_err {W0 w : World} {s : ByteArray} {c d : Int} (h : readF s = ([], c)) (hd : d = c) (hb : Below W0.heap.size W0 w) : RdPost W0 (readF s).1 (readF s).2 (.returned (.tuple #[.slice none 0 0, .int .i64 d])) w := by
  rw [h, hd]
  exact ⟨_, rfl, World.ownsRow_nil _ _ _ _, hb⟩
theorem rd_err2 {W0 w : World} {s : ByteArray} {c d : Int} {o : Obj} {g : Nat} (h : readF s = ([], c)) (hd : d = c) (hg : g = w.heap.size) (ho : o = .cells #[] 39) (hb : Below W0.heap.size W0 w) : RdPost W0 (readF s).1 (readF s).2 (.returned (.tuple #[.slice (some ⟨g, 0, none⟩) 0 0, .int .i64 d])) (w.alloc o) := by
  rw [h, hd, ho, hg]
  exact ⟨_, rfl, World.ownsRow_lit w #[] 0 hb.size (Nat.zero_le _) rfl, hb.alloc hb.size _⟩
theorem rd_ok {W0 w : World} {s : ByteArray} {v : Value} {zs : List (Int × Int)} {n : Nat} (h : readF s = (zs, 0)) (hn : zs.length = n) (ho : w.ownsRow W0.heap.size 39 2 v n (flat insC zs)) (hb : Below W0.heap.size W0 w) : RdPost W0 (readF s).1 (readF s).2 (.returned (.tuple #[v, .int .i64 0])) w := by
  rw [h]
  exact ⟨_, rfl, hn ▸ ho, hb⟩
theorem ins_one (x y : Int) : flat insC [(x, y)] = [.int .i64 x, .int .i64 y] := rfl
set_option maxRecDepth 100000 in
theorem readCode_any (s : ByteArray) (hm : s.size ≤ maxLen) (W0 w : World) (aR bE : Addr) (hT : OpTab W0) (hS : Sent W0 aR bE) (hb : Below W0.heap.size W0 w) :
    Calls Tryd.prog 11 #[.string s] w (RdPost w (readF s).1 (readF s).2) := by
  unfold maxLen at hm
  by_cases hs : 65536 < s.size
  · have H := Lib.hid (readF_long hs)
    clear hT hS hb
    go_enter Tryd.func11, Tryd.ntmps11
    go_wp2
    go_ret2
    exact rd_err H.out rfl (Below.refl _ _)
  have HT := Lib.hid (hT.below hb (Nat.le_refl _))
  have HS := Lib.hid (hS.below hb)
  have H0 := Lib.hid (atR_zero hs)
  obtain ⟨i0, hi, hz0, hz1, hz2⟩ := info_parts (show (Tryd.prog.info? 39).map (fun i => (i.zero, i.size, i.bytes)) = some (some (.agg #[.int .i64 0, .int .i64 0]), 2, 16) by kernel_rfl)
  have HI := Lib.hid (And.intro hi (And.intro hz0 (And.intro hz1 hz2)))
  clear hT hS hb hi hz0 hz1 hz2
  go_enter Tryd.func11, Tryd.ntmps11
  go_wp2
  go_loopw [4, 5] (fun v i wr => ∃ (p n c : Nat) (a : Option Addr) (zs : List (Int × Int)), p ≤ s.size ∧ n ≤ 40 ∧ i = .int .i64 p ∧ v = .slice a n c ∧ Hid (zs.length = n) ∧ Hid (AtR s p zs) ∧ Hid (wr.ownsRow w.heap.size 39 2 (.slice a n c) n (flat insC zs)) ∧ Hid (Below w.heap.size w wr)) (fun _ i _ => s.size - (intOf i).toNat)
  case atStart => exact ⟨0, 0, 0, none, [], Nat.zero_le _, Nat.zero_le _, rfl, rfl, Lib.hid rfl, H0, Lib.hid (World.ownsRow_nil _ _ _ _), Lib.hid (Below.refl _ _)⟩
  case round =>
    obtain ⟨p, n, c, a, zs, hp, hn, rfl, rfl, hl, hr, ho, hb⟩ := hrel
    have hB := hb.out.size
    by_cases hlt : p < s.size
    · obtain ⟨⟨⟨x, y⟩, m, d⟩, hx⟩ : ∃ r, takeX s p = r := ⟨_, rfl⟩
      have HC := Lib.hid (fun w hT hS => takeInstr_any s p (by omega) hlt aR bE w hT hS x y d m hx)
      by_cases hd : d = 0
      · subst hd
        have hsz := takeX_size s p (by rw [hx])
        rw [hx] at hsz
        have hm1 : 1 ≤ m := hsz.1
        have hm5 : m ≤ 5 := hsz.2
        clear hsz
        by_cases h40 : n = 40
        · have H := Lib.hid (hr.out.many hlt hx (by rw [hl.out]; exact h40))
          have hq : ((n : Int) == 40) = true := beq_iff_eq.2 (by omega)
          clear hx h40
          go_wp2_with (go_at_call 41; refine (HC.out _ (HT.out.below hb.out (Nat.le_refl _)) (HS.out.below hb.out)).mono ?_; rintro e w2 ⟨rfl, hb2⟩; have Hb2 := Lib.hid (hb.out.trans (hb2.mono hB)); have hB2 := Hb2.out.size; clear hb2)
          go_ret2
          exact rd_err H.out rfl (Hb2.out.alloc hB2 _)
        · have hst := Lib.hid (hr.out.step hlt hx (by rw [hl.out]; exact h40))
          have hp2 : p + m ≤ s.size := by
            unfold takeX at hx
            repeat' split at hx
            all_goals (simp only [Prod.mk.injEq] at hx; omega)
          have hq : ((n : Int) == 40) = false := beq_eq_false_iff_ne.2 (by omega)
          clear hx
          obtain ⟨H1, H2, H3, H4⟩ := HI.out
          go_wp2_with first | (go_at_call 41; refine (HC.out _ (HT.out.below hb.out (Nat.le_refl _)) (HS.out.below hb.out)).mono ?_; rintro e w2 ⟨rfl, hb2⟩; have Hb2 := Lib.hid (hb.out.trans (hb2.mono hB)); have hB2 := Hb2.out.size; have Ho2 := Lib.hid (own_bel ho.out hb2); clear hb2) | (at_builtin; go_must (refine wpList_append_own _ rfl (.tmp 29) (.tmp 31) _ rfl w.heap.size 39 i0 _ 2 16 Tryd.underlying23 H1 H2 H3 H4 rfl (by decide) (.slice a n c) n (flat insC zs) rfl ((Ho2.out.alloc _).alloc _) ⟨w2.heap.size + 1, 0, none⟩ 1 1 [.int .i64 x, .int .i64 y] rfl rfl (by simpa using cell_two_nw (w2.alloc (.cells #[.int .i64 x, .int .i64 y] 39)) (.int .i64 x) (.int .i64 y) 39) (by simp [Value.oneCell']) (by unfold maxLen; omega) (by omega) (by simp; omega) ?_); intro v3 w3 g3 g4 _; have Hb3 := Lib.hid (((Hb2.out.alloc hB2 _).alloc (by simp; omega) _).grown g4 (by simp; omega) (fun q hq => (Ho2.out.lt q hq).1)); have Ho3 := Lib.hid g3; clear g3 g4)
          obtain ⟨a3, c3, hv3⟩ : ∃ a3 c3, v3 = .slice a3 (n + 1) c3 := by
            rcases own_form Ho3.out with ⟨_, h0⟩ | ⟨g, c3, rfl⟩
            · omega
            · exact ⟨_, _, rfl⟩
          subst hv3
          have Ho4 : Hid (w3.ownsRow w.heap.size 39 2 (.slice a3 (n + 1) c3) (n + 1) (flat insC (zs ++ [(x, y)]))) := Lib.hid (own_cast Ho3.out rfl (by rw [flat_snoc]; rfl))
          have Hl4 : Hid ((zs ++ [(x, y)]).length = n + 1) := Lib.hid (by simp [hl.out])
          clear Ho3
          go_roundw
          case rel => exact ⟨p + m, n + 1, c3, a3, zs ++ [(x, y)], hp2, by omega, by go_num, rfl, Hl4, hst, Ho4, Hb3⟩
          case measure => simp [intOf]; omega
      · have H := Lib.hid (hr.out.err hlt hx hd)
        have hq : (d != 0) = true := by rw [bne_iff_ne]; exact hd
        clear hx hd
        go_wp2_with (go_at_call 41; refine (HC.out _ (HT.out.below hb.out (Nat.le_refl _)) (HS.out.below hb.out)).mono ?_; rintro e w2 ⟨rfl, hb2⟩; have Hb2 := Lib.hid (hb.out.trans (hb2.mono hB)); have hB2 := Hb2.out.size; clear hb2)
        go_ret2
        exact rd_err H.out rfl (Hb2.out.alloc hB2 _)
    · have H := Lib.hid (hr.out.fin hlt)
      go_wp2
      go_ret2
      exact rd_ok H.out hl.out ho.out hb.out
theorem bare_ok {k : Nat} (h1 : 1 ≤ k) (h2 : k ≤ 26) (h : opHas k = false) : okB (k : Int) 0 = true := by
  rw [okB_in h1 h2]
  exact op_cases (p := fun k => 1 ≤ k → opHas k = false → (decide (opLo k ≤ 0) && decide (0 ≤ opHi k)) = true) (by decide) (by omega) h1 h
end Go.Proofs.YtgbhihenflooeaaDoor
