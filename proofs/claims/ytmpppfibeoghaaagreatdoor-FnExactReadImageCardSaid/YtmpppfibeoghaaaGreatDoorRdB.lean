/- impl's reader: the routines. -/
import Derived.Test.YtmpppfibeoghaaaGreatDoorRdA
import Derived.Test.YtmpppfibeoghaaaGreatDoorPgmM
import Derived.Test.YtmpppfibeoghaaaGreatDoorRead
import Derived.Test.YtmpppfibeoghaaaGreatDoorSmP
namespace Go.Proofs.YtmpppfibeoghaaaGreatDoor
open Go.ChangeShapes Go.WideShapes Go.ChangeAt Go.RowKit Go.PlainAid
set_option linter.unusedVariables false
theorem ap_new {w w' : World} {B size n c size' n' c' : Nat} {e e' : TypeId} {a b : Option Addr} {xs ys : List Value} (h : w.ownsRow B e size (.slice a n c) n xs) (h' : w'.ownsRow w.heap.size e' size' (.slice b n' c') n' ys) : Ap a b := fun x y hx hy e0 => by
  have h1 := (h.lt x.block (by rw [hx]; rfl)).2
  have h2 := (h'.lt y.block (by rw [hy]; rfl)).1
  omega
/-- While routines are read: the row, the codes so far. -/
structure RInv (B g n : Nat) (L : List (List Ins)) (rs : List RTp) (w : World) : Prop where
  row : ∃ tl : List Value, tl.length = n - rs.length ∧ rs.length ≤ n ∧ w.ownsRow B 74 1 (.slice (some ⟨g, 0, none⟩) n n) n (flat rpC rs ++ tl)
  each : ∀ j, j < rs.length → (rs.getD j r0).2.1 = (L.getD j []).length ∧ w.ownsRow B 128 2 (.slice (rs.getD j r0).1 (L.getD j []).length (rs.getD j r0).2.2) (L.getD j []).length (flat insC (L.getD j []))
  apart : ∀ i j, i < j → j < rs.length → Ap (rs.getD i r0).1 (rs.getD j r0).1
theorem RInv.rk {B g n R : Nat} {L : List (List Ins)} {rs : List RTp} {w w' : World} {t : ByteArray} {s : RS} (h : RInv B g n L rs w) (hR : w.heap[R]? = some (rO t s)) (hg : w.grownBy w' (some R)) : RInv B g n L rs w' := by
  obtain ⟨tl, h1, h2, h3⟩ := h.row
  exact ⟨⟨tl, h1, h2, h3.kept hg (Or.inr (own_ne h3 hR (by decide)))⟩, fun j hj => ⟨(h.each j hj).1, (h.each j hj).2.kept hg (Or.inr (own_ne (h.each j hj).2 hR (by decide)))⟩, h.apart⟩
theorem gd_lt {rs : List RTp} {x : RTp} {j : Nat} (h : j < rs.length) : (rs ++ [x]).getD j r0 = rs.getD j r0 := by simp [List.getD, List.getElem?_append_left h]
theorem gd_eq {rs : List RTp} {x : RTp} : (rs ++ [x]).getD rs.length r0 = x := by simp [List.getD]
theorem RInv.snoc {B g n : Nat} {L : List (List Ins)} {rs : List RTp} {w : World} (h : RInv B g n L rs w) (hlt : rs.length < n) {a : Option Addr} {c : Nat}
    (hv : w.ownsRow B 128 2 (.slice a (L.getD rs.length []).length c) (L.getD rs.length []).length (flat insC (L.getD rs.length []))) (ha : ∀ j, j < rs.length → Ap (rs.getD j r0).1 a) :
    RInv B g n L (rs ++ [(a, (L.getD rs.length []).length, c)]) (w.setCell ⟨g, rs.length, none⟩ (.slice a (L.getD rs.length []).length c)) ∧ w.grownBy (w.setCell ⟨g, rs.length, none⟩ (.slice a (L.getD rs.length []).length c)) (some g) := by
  obtain ⟨tl, h1, h2, h3⟩ := h.row
  obtain ⟨h4, hg⟩ := h3.stored rs.length (.slice a (L.getD rs.length []).length c)
  obtain ⟨x, tl', rfl⟩ : ∃ x tl', tl = x :: tl' := by
    cases tl with
    | nil => simp at h1; omega
    | cons x tl' => exact ⟨x, tl', rfl⟩
  have e : (flat rpC rs ++ x :: tl').set rs.length (.slice a (L.getD rs.length []).length c) = flat rpC (rs ++ [(a, (L.getD rs.length []).length, c)]) ++ tl' := by
    rw [flat_snoc, List.set_append_right _ _ (by rw [flat_len rpC_len]; omega), flat_len rpC_len]
    simp [rpC]
  rw [e] at h4
  refine ⟨⟨⟨tl', by simp at h1 ⊢; omega, by simp; omega, h4⟩, fun j hj => ?_, fun i j hij hj => ?_⟩, hg⟩
  · by_cases q : j < rs.length
    · rw [gd_lt q]
      exact ⟨(h.each j q).1, own_els (h.each j q).2 h3 (by decide) hg⟩
    · obtain rfl : j = rs.length := by simp at hj; omega
      rw [gd_eq]
      exact ⟨rfl, own_els hv h3 (by decide) hg⟩
  · by_cases q : j < rs.length
    · rw [gd_lt q, gd_lt (by omega)]
      exact h.apart i j hij q
    · obtain rfl : j = rs.length := by simp at hj; omega
      rw [gd_eq, gd_lt hij]
      exact ha i hij
theorem RInv.there {B g n : Nat} {L : List (List Ins)} {rs : List RTp} {w : World} (h : RInv B g n L rs w) (hlt : rs.length < n) : (∃ v, w.cell? ⟨g, rs.length, none⟩ = some v) ∧ w.frozen? ⟨g, rs.length, none⟩ = false := by
  obtain ⟨tl, h1, h2, h3⟩ := h.row
  have hc := h3.cellAt rs.length (by omega)
  refine ⟨?_, h3.frozenAt _⟩
  rw [hc]
  have : rs.length < (flat rpC rs ++ tl).length := by rw [List.length_append, flat_len rpC_len]; omega
  exact ⟨_, List.getElem?_eq_getElem this⟩
theorem lt_own {w : World} {B size n c : Nat} {e : TypeId} {a : Option Addr} {xs : List Value} (h : w.ownsRow B e size (.slice a n c) n xs) : Lt w.heap.size a := fun x hx => (h.lt x.block (by rw [hx]; rfl)).2
theorem RInv.rg {B g : Nat} {L : List (List Ins)} {rs : List RTp} {w : World} (h : RInv B g L.length L rs w) (hl : rs.length = L.length) : RG B w.heap.size (some ⟨g, 0, none⟩) L.length L w := by
  obtain ⟨tl, h1, h2, h3⟩ := h.row
  have ht : tl = [] := List.eq_nil_of_length_eq_zero (by omega)
  subst ht
  rw [List.append_nil] at h3
  exact ⟨rs, hl, h3, lt_own h3, fun j hj => ⟨(h.each j (by omega)).1, (h.each j (by omega)).2, lt_own (h.each j (by omega)).2⟩, fun i j hij hj => h.apart i j hij (by omega)⟩
def RtEnd (R : Nat) (t : ByteArray) (s : RS) (L : List (List Ins)) (w : World) (e : Ending) (w' : World) : Prop :=
  ∃ g, e = .returned (.slice (some ⟨g, 0, none⟩) L.length L.length) ∧ RG w.heap.size w'.heap.size (some ⟨g, 0, none⟩) L.length L w' ∧ w'.heap[R]? = some (rO t s) ∧ w.grownBy w' (some R)
set_option maxHeartbeats 1000000 in
theorem routines_any (R : Nat) (t : ByteArray) (s : RS) (hp : s.p ≤ t.size) (ht : t.size ≤ 65536) (aR bE : Addr) (w : World) (hS : ∀ X, w.grownBy X (some R) → OpTab X ∧ Sent X aR bE) (h : w.heap[R]? = some (rO t s)) :
    Calls Tryz.prog 29 #[.pointer (some ⟨R, 0, none⟩)] w (RtEnd R t (manyS (codS t) (cntP t 6 s).toNat (cntS t 6 s)) (manyP (codP t) (codS t) (cntP t 6 s).toNat (cntS t 6 s)) w) := by
  obtain ⟨i0, hi, hz0, hz1, hz2⟩ := info_parts (show (Tryz.prog.info? 74).map (fun i => (i.zero, i.size, i.bytes)) = some (some (.agg #[.slice none 0 0]), 1, 24) by kernel_rfl)
  have HI := Lib.hid (And.intro hi (And.intro hz0 (And.intro hz1 hz2)))
  clear hi hz0 hz1 hz2
  have hRw : R < w.heap.size := (Array.getElem?_eq_some_iff.1 h).1
  have HCN := Lib.hid (count_any R t s 6 (by omega) hp ht aR bE w (fun X hX => (hS X hX).2) h)
  have hrng := cnt_rng (t := t) (most := 6) (s := s) (by omega)
  have hsp := cntS_le (t := t) (most := 6) (s := s) hp
  obtain ⟨n, hn⟩ := Int.eq_ofNat_of_zero_le hrng.1
  rw [hn] at HCN hrng ⊢
  rw [Int.toNat_natCast]
  have HNM := Lib.hid (fun k X (hg : w.grownBy X (some R)) hx => code_any R t (manyS (codS t) k (cntS t 6 s)) (manyS_le (fun s h => codS_le h) k _ hsp) ht aR bE X (fun Y hY => hS Y (row_tr hg hY)) hx)
  have HL := Lib.hid (manyP_len (codP t) (codS t) n (cntS t 6 s))
  have HAT : Hid (∀ k, k < n → (manyP (codP t) (codS t) n (cntS t 6 s)).getD k [] = codP t (manyS (codS t) k (cntS t 6 s))) := Lib.hid (fun k hk => by rw [List.getD, manyP_at (codP t) (codS t) n k _ hk]; rfl)
  have HSN := Lib.hid (fun k => manyS_snoc (codS t) k (cntS t 6 s))
  have hn8 : n ≤ 6 := by omega
  clear h hS hrng hsp hn
  generalize manyP (codP t) (codS t) n (cntS t 6 s) = L at *
  generalize cntS t 6 s = s1 at *
  go_enter Tryz.func29, Tryz.ntmps29
  go_wp2_with fail
  refine Calls.mono HCN.out ?_
  rintro e w1 ⟨rfl, ho1, hg1⟩
  have HO1 := Lib.hid ho1
  have HG1 := Lib.hid hg1
  have hsz1 := hg1.size
  clear ho1 hg1
  go_wp2_with (at_make; go_must (refine wpList_make_full _ rfl _ _ _ rfl w.heap.size 74 i0 _ 1 Tryz.underlying24 HI.out.1 HI.out.2.1 HI.out.2.2.1 .i64 .i64 _ _ n rfl rfl rfl rfl (by rw [HI.out.2.2.2]; omega) (by unfold maxLen; omega) hsz1 ?_); intro w2 hown hgrow)
  have hg12 : w1.heap.size < w2.heap.size := (hown.lt _ rfl).2
  have HF2 : Hid (RInv w.heap.size w1.heap.size n L [] w2) := Lib.hid ⟨⟨_, by have := hown.1; simpa using this, Nat.zero_le _, hown⟩, fun j hj => by simp at hj, fun i j _ hj => by simp at hj⟩
  have hb2 : Below w1.heap.size w1 w2 := (Below.refl _ w1).grown hgrow (Nat.le_refl _) (by intro k hk; cases hk)
  have HO2 : Hid (w2.heap[R]? = some (rO t (manyS (codS t) 0 s1))) := Lib.hid (blk_bel HO1.out hb2)
  have HG2 := Lib.hid (row_tr HG1.out (rdg_bel (R := R) hb2))
  have hne : w1.heap.size ≠ R := by omega
  clear hown hgrow hb2
  go_wp2
  go_loopw [12] (fun i wr => ∃ (k : Nat) (rs : List RTp), k ≤ n ∧ i = .int .i64 k ∧ Hid (rs.length = k) ∧ Hid (RInv w.heap.size w1.heap.size n L rs wr) ∧ Hid (wr.heap[R]? = some (rO t (manyS (codS t) k s1))) ∧ Hid (w.grownBy wr (some R))) (fun i _ => n - (intOf i).toNat)
  case atStart => exact ⟨0, [], Nat.zero_le _, rfl, Lib.hid rfl, HF2, HO2, HG2⟩
  case round =>
    obtain ⟨k, rs, hk, rfl, hrl, hf, ho, hg⟩ := hrel
    by_cases hlt : k < n
    · have hNk := HNM.out k wr hg.out ho.out
      have HATk := Lib.hid (HAT.out k hlt)
      rw [← HATk.out, ← HSN.out k] at hNk
      have HNk := Lib.hid hNk
      clear hNk
      go_wp2_with fail
      refine Calls.mono HNk.out ?_
      rintro e w3 ⟨v, rfl, hv3, ho3, hg3⟩
      obtain ⟨a, c, rfl⟩ := wk_slice hv3
      have hf3 := hf.out.rk ho.out hg3
      have hap : ∀ j, j < rs.length → Ap (rs.getD j r0).1 a := fun j hj => ap_new (hf.out.each j hj).2 hv3
      rw [← hrl.out] at hv3 hlt
      have hv4 := own_base hv3 hg.out.size
      obtain ⟨⟨v0, e0⟩, f0⟩ := hf3.there hlt
      obtain ⟨hs, hgs⟩ := hf3.snoc hlt hv4 hap
      have hlt2 : k < n := by rw [hrl.out] at hlt; exact hlt
      rw [hrl.out] at e0 f0 hs
      have HF3 := Lib.hid hs
      have HRL : Hid ((rs ++ [((a, (L.getD k []).length, c) : RTp)]).length = k + 1) := Lib.hid (by simp [hrl.out])
      have HO3 := Lib.hid (blk_far (p := w1.heap.size) (i := k) ho3 (Ne.symm hne) (.slice a (L.getD k []).length c))
      have HG3 := Lib.hid (rdg_new (row_tr hg.out hg3) (g := w1.heap.size) (i := k) hsz1 (.slice a (L.getD k []).length c))
      clear hf3 hs hgs ho3 hg3 hv3 hv4 hap hlt
      generalize (L.getD k []).length = q at *
      go_wp2
      go_roundw
      case rel => exact ⟨k + 1, _, by omega, by go_num, HRL, HF3, HO3, HG3⟩
      case measure => simp [intOf]; omega
    · obtain rfl : k = n := by omega
      have hrg := hf.out
      rw [← HL.out] at hrg
      have HFU := Lib.hid (hrg.rg (by rw [HL.out]; exact hrl.out))
      clear hrg
      go_wp2
      go_ret
      exact ⟨w1.heap.size, by rw [HL.out]; rfl, HFU.out, ho.out, hg.out⟩
end Go.Proofs.YtmpppfibeoghaaaGreatDoor
namespace Go.Proofs.YtmpppfibeoghaaaGreatDoor
open Go.ChangeShapes Go.WideShapes Go.ChangeAt Go.RowKit Go.PlainAid
set_option linter.unusedVariables false
theorem goR_len {s : ByteArray} : ∀ (f p : Nat) (zs : List Ins), zs.length ≤ 40 → (goR s f p zs).1.length ≤ 40
  | 0, _, _, h => h
  | f + 1, p, zs, h => by
    rw [goR]
    split
    · split
      · simp
      · split
        · simp
        · rename_i h40
          exact goR_len f _ _ (by rw [List.length_append]; simp; omega)
    · exact h
theorem readF_len (s : ByteArray) : (readF s).1.length ≤ 40 := by
  unfold readF
  split
  · simp
  · exact goR_len _ _ _ (by simp)
theorem codP_len (t : ByteArray) (s : RS) : (codP t s).length ≤ 40 := by
  unfold codP
  split
  · simp
  · exact readF_len _
theorem manyP_all {α : Type} {f : RS → α} {g : RS → RS} {P : α → Prop} (h : ∀ s, P (f s)) : ∀ (n : Nat) (s : RS), ∀ x ∈ manyP f g n s, P x
  | 0, s, x, hx => by simp [manyP] at hx
  | n + 1, s, x, hx => by
    rw [manyP] at hx
    rcases List.mem_cons.1 hx with rfl | hx
    · exact h s
    · exact manyP_all h n (g s) x hx
theorem cnt_nat {t : ByteArray} {most : Nat} {s : RS} : (cntP t (most : Int) s).toNat ≤ most := by
  have := cnt_rng (t := t) (most := (most : Int)) (s := s) (by omega)
  omega
theorem pgm_n (u : ByteArray) : (pgmP u).n0 ≤ 8 ∧ (pgmP u).n1 ≤ 6 ∧ (pgmP u).n2 ≤ 5 ∧ (pgmP u).n3 = 8 := by
  refine ⟨?_, ?_, ?_, pins_len _⟩
  · show (manyP _ _ _ _).length ≤ 8
    rw [manyP_len]
    exact cnt_nat (most := 8)
  · show (manyP _ _ _ _).length ≤ 6
    rw [manyP_len]
    exact cnt_nat (most := 6)
  · show (manyP _ _ _ _).length ≤ 5
    rw [manyP_len]
    exact cnt_nat (most := 5)
theorem pgm_codes (u : ByteArray) (j : Nat) (hj : j < (pgmP u).rs.length) : ((pgmP u).rs.getD j []).length ≤ 40 := by
  have e : (pgmP u).rs.getD j [] = (pgmP u).rs[j] := by simp [List.getD, hj]
  rw [e]
  exact manyP_all (P := fun c => c.length ≤ 40) (codP_len u) _ _ _ (List.getElem_mem hj)
theorem pgm_le (u : ByteArray) (n : Nat) (hn : 40 ≤ n) : (pgmP u).le n := by
  obtain ⟨h0, h1, h2, h3⟩ := pgm_n u
  exact ⟨by omega, by omega, by omega, by omega, fun j hj => Nat.le_trans (pgm_codes u j hj) hn⟩
theorem sumP_le {ls : List (List Ins)} (h : ∀ j, j < ls.length → (ls.getD j []).length ≤ 40) : ∀ k, k ≤ ls.length → sumP ls k ≤ 40 * k
  | 0, _ => by rw [sumP_zero]; omega
  | k + 1, hk => by
    rw [sumP_step (by omega)]
    have := sumP_le h k (by omega)
    have := h k (by omega)
    omega
theorem pgm_sum (u : ByteArray) : sumP (pgmP u).rs (pgmP u).rs.length ≤ 1048576 := by
  have h1 := sumP_le (ls := (pgmP u).rs) (pgm_codes u) _ (Nat.le_refl _)
  have h2 : (pgmP u).rs.length ≤ 6 := (pgm_n u).2.1
  omega
theorem pgm0_le (n : Nat) : pgm0.le n := ⟨Nat.zero_le _, Nat.zero_le _, Nat.zero_le _, Nat.zero_le _, fun j hj => by simp [pgm0] at hj⟩
theorem pgm0_sum : sumP pgm0.rs pgm0.rs.length ≤ 1048576 := by decide
/-- What ReadImage answers. -/
noncomputable def rmC (s : ByteArray) : Int := if rdC s ≠ 0 then rdC s else rdCode (rdS s)
noncomputable def rmD (s : ByteArray) : Pgm := if rdC s ≠ 0 then pgm0 else rdPgm (rdS s)
theorem rm_le (s : ByteArray) (n : Nat) (hn : 40 ≤ n) : (rmD s).le n := by
  unfold rmD rdPgm
  split
  · exact pgm0_le n
  · split
    · exact pgm_le _ n hn
    · exact pgm0_le n
theorem rm_sum (s : ByteArray) : sumP (rmD s).rs (rmD s).rs.length ≤ 1048576 := by
  unfold rmD rdPgm
  split
  · exact pgm0_sum
  · split
    · exact pgm_sum _
    · exact pgm0_sum
def ph0 : PH := ⟨none, none, none, none, 0, 0, 0, 0⟩
theorem own0 (B hi : Nat) (w : World) : POwn B hi ph0 pgm0 w :=
  ⟨World.ownsRow_nil _ _ _ _, ⟨[], rfl, World.ownsRow_nil _ _ _ _, (fun x e => by cases e), (fun j hj => by cases hj), (fun i j _ hj => by cases hj)⟩, World.ownsRow_nil _ _ _ _, World.ownsRow_nil _ _ _ _, (fun x e => by cases e), (fun x e => by cases e), (fun x e => by cases e)⟩
theorem RG.rk {B hi c R : Nat} {a : Option Addr} {ls : List (List Ins)} {w w' : World} {t : ByteArray} {s : RS} (h : RG B hi a c ls w) (hR : w.heap[R]? = some (rO t s)) (hg : w.grownBy w' (some R)) : RG B hi a c ls w' := by
  obtain ⟨rs, h1, h2, h3, h4, h5⟩ := h.rows
  exact ⟨rs, h1, h2.kept hg (Or.inr (own_ne h2 hR (by decide))), h3, fun j hj => ⟨(h4 j hj).len, (h4 j hj).own.kept hg (Or.inr (own_ne (h4 j hj).own hR (by decide))), (h4 j hj).lt⟩, h5⟩
theorem RG.hi {B hi hi' c : Nat} {a : Option Addr} {ls : List (List Ins)} {w : World} (h : RG B hi a c ls w) (hh : hi ≤ hi') : RG B hi' a c ls w := by
  obtain ⟨rs, h1, h2, h3, h4, h5⟩ := h.rows
  exact ⟨rs, h1, h2, fun x e => Nat.lt_of_lt_of_le (h3 x e) hh, fun j hj => ⟨(h4 j hj).len, (h4 j hj).own, fun x e => Nat.lt_of_lt_of_le ((h4 j hj).lt x e) hh⟩, h5⟩
theorem RG.dn {B B' hi c : Nat} {a : Option Addr} {ls : List (List Ins)} {w : World} (h : RG B hi a c ls w) (hB : B' ≤ B) : RG B' hi a c ls w := by
  obtain ⟨rs, h1, h2, h3, h4, h5⟩ := h.rows
  exact ⟨rs, h1, own_base h2 hB, h3, fun j hj => ⟨(h4 j hj).len, own_base (h4 j hj).own hB, (h4 j hj).lt⟩, h5⟩
theorem RG.fr {B hi c p i : Nat} {a : Option Addr} {ls : List (List Ins)} {w : World} (h : RG B hi a c ls w) (hp : p < B) (u : Value) : RG B hi a c ls (w.setCell ⟨p, i, none⟩ u) := by
  obtain ⟨rs, h1, h2, h3, h4, h5⟩ := h.rows
  exact ⟨rs, h1, own_far h2 hp u, h3, fun j hj => ⟨(h4 j hj).len, own_far (h4 j hj).own hp u, (h4 j hj).lt⟩, h5⟩
theorem POwn.fr {B hi p i : Nat} {h : PH} {D : Pgm} {w : World} (o : POwn B hi h D w) (hp : p < B) (u : Value) : POwn B hi h D (w.setCell ⟨p, i, none⟩ u) :=
  ⟨own_far o.ks hp u, o.rs.fr hp u, own_far o.ts hp u, own_far o.sa hp u, o.l0, o.l2, o.l3⟩
theorem POwn.dn {B B' hi : Nat} {h : PH} {D : Pgm} {w : World} (o : POwn B hi h D w) (hB : B' ≤ B) : POwn B' hi h D w :=
  ⟨own_base o.ks hB, o.rs.dn hB, own_base o.ts hB, own_base o.sa hB, o.l0, o.l2, o.l3⟩
theorem POwn.up {B hi hi' : Nat} {h : PH} {D : Pgm} {w : World} (o : POwn B hi h D w) (hh : hi ≤ hi') : POwn B hi' h D w :=
  ⟨o.ks, o.rs.hi hh, o.ts, o.sa, fun x e => Nat.lt_of_lt_of_le (o.l0 x e) hh, fun x e => Nat.lt_of_lt_of_le (o.l2 x e) hh, fun x e => Nat.lt_of_lt_of_le (o.l3 x e) hh⟩
def RmPost (D : Pgm) (c : Int) (w : World) (e : Ending) (w' : World) : Prop := ∃ h : PH, e = .returned (.tuple #[pV h D, .int .i64 c]) ∧ POwn w.heap.size w'.heap.size h D w' ∧ Below w.heap.size w w'
theorem end_code (t : ByteArray) (s : RS) : (endP t s).c = if s.c ≠ 0 then s.c else if s.p ≠ t.size then 8 else 0 := by
  unfold endP
  by_cases h : s.p = t.size
  · rw [if_pos h]
    by_cases q : s.c ≠ 0
    · rw [if_pos q]
    · rw [if_neg q, if_neg (fun k => k h)]
      simpa using q
  · rw [if_neg h]
    unfold failP
    by_cases q : s.c = 0
    · rw [if_pos q, if_neg (fun k => k q), if_pos h]
    · rw [if_neg q, if_pos q]
theorem rm_bad {s : ByteArray} (h : rdC s ≠ 0) : rmC s = rdC s ∧ rmD s = pgm0 := by unfold rmC rmD; rw [if_pos h, if_pos h]; exact ⟨rfl, rfl⟩
theorem rm_end {s : ByteArray} (h : rdC s = 0) (g : (endP (rdS s) (stG (rdS s))).c ≠ 0) : rmC s = (endP (rdS s) (stG (rdS s))).c ∧ rmD s = pgm0 := by
  have e : rdCode (rdS s) = (endP (rdS s) (stG (rdS s))).c := by
    rw [end_code] at g ⊢
    unfold rdCode
    by_cases q : (stG (rdS s)).c ≠ 0
    · rw [if_pos q, if_pos q]
    · rw [if_neg q] at g ⊢
      rw [if_neg q]
      by_cases k : (stG (rdS s)).p ≠ (rdS s).size
      · rw [if_pos k, if_pos k]
      · rw [if_neg k] at g; exact absurd rfl g
  unfold rmC rmD rdPgm
  rw [if_neg (fun k => k h), if_neg (fun k => k h), e, if_neg g]
  exact ⟨rfl, rfl⟩
theorem rm_chk {s : ByteArray} (h : rdC s = 0) (g : (endP (rdS s) (stG (rdS s))).c = 0) : rdCode (rdS s) = (ckF (pgmP (rdS s))).2 := by
  rw [end_code] at g
  unfold rdCode
  by_cases q : (stG (rdS s)).c ≠ 0
  · rw [if_pos q] at g; exact absurd g q
  · rw [if_neg q] at g ⊢
    by_cases k : (stG (rdS s)).p ≠ (rdS s).size
    · rw [if_pos k] at g; exact absurd g (by decide)
    · rw [if_neg k]
theorem rm_no {s : ByteArray} (h : rdC s = 0) (g : (endP (rdS s) (stG (rdS s))).c = 0) (k : (ckF (pgmP (rdS s))).2 ≠ 0) : rmC s = (ckF (pgmP (rdS s))).2 ∧ rmD s = pgm0 := by
  unfold rmC rmD rdPgm
  rw [if_neg (fun q => q h), if_neg (fun q => q h), rm_chk h g, if_neg k]
  exact ⟨rfl, rfl⟩
theorem rm_yes {s : ByteArray} (h : rdC s = 0) (g : (endP (rdS s) (stG (rdS s))).c = 0) (k : (ckF (pgmP (rdS s))).2 = 0) : rmC s = 0 ∧ rmD s = pgmP (rdS s) := by
  unfold rmC rmD rdPgm
  rw [if_neg (fun q => q h), if_neg (fun q => q h), rm_chk h g, if_pos k]
  exact ⟨k, rfl⟩
theorem rdS_size (s : ByteArray) : (rdS s).size ≤ 65536 := by
  unfold rdS
  split
  · unfold rfS
    split
    · rw [ByteArray.size_extract]; omega
    · decide
  · decide
end Go.Proofs.YtmpppfibeoghaaaGreatDoor
namespace Go.Proofs.YtmpppfibeoghaaaGreatDoor
open Go.ChangeShapes Go.WideShapes Go.ChangeAt Go.RowKit Go.PlainAid
set_option linter.unusedVariables false
abbrev bO0 : Obj := .cells #[.slice none 0 0, .slice none 0 0, .slice none 0 0, .slice none 0 0] 28
theorem bel_rdg {w a X : World} {R : Nat} (hb : Below w.heap.size w a) (g : a.grownBy X (some R)) (hR : w.heap.size ≤ R) : Below w.heap.size w X := hb.grown g hb.size (fun k hk => by cases hk; exact hR)
theorem rm_nil {w w' : World} {c : Int} {D : Pgm} (hD : D = pgm0) (hb : Below w.heap.size w w') : RmPost D c w (.returned (.tuple #[.agg #[.slice none 0 0, .slice none 0 0, .slice none 0 0, .slice none 0 0], .int .i64 c])) w' := by
  subst hD
  exact ⟨ph0, rfl, own0 _ _ _, hb⟩
theorem rO_zero (w : World) (u : ByteArray) : (w.alloc (.cells #[.string u, .int .i64 0] 58)).heap[w.heap.size]? = some (rO u ⟨0, 0⟩) := by
  have e : u.extract 0 u.size = u := ByteArray.extract_zero_size
  have h := heap_alloc_new w (.cells #[.string u, .int .i64 0] 58)
  rw [h]
  show _ = some (Obj.cells #[.string (u.extract 0 u.size), .int .i64 0] 58)
  rw [e]
theorem POwn.rk {B hi R : Nat} {h : PH} {D : Pgm} {w w' : World} {t : ByteArray} {s : RS} (o : POwn B hi h D w) (hR : w.heap[R]? = some (rO t s)) (hg : w.grownBy w' (some R)) : POwn B hi h D w' :=
  ⟨o.ks.kept hg (Or.inr (own_ne o.ks hR (by decide))), o.rs.rk hR hg, o.ts.kept hg (Or.inr (own_ne o.ts hR (by decide))), o.sa.kept hg (Or.inr (own_ne o.sa hR (by decide))), o.l0, o.l2, o.l3⟩
def CallN (f : FuncId) (R : Nat) (n : Nat) (own : World → Option Addr → World → Prop) (u : ByteArray) (s s' : RS) (hp : World → Prop) : Prop :=
  ∀ X, hp X → X.heap[R]? = some (rO u s) → Calls Tryz.prog f #[.pointer (some ⟨R, 0, none⟩)] X fun e w' => ∃ g, e = .returned (.slice (some ⟨g, 0, none⟩) n n) ∧ own X (some ⟨g, 0, none⟩) w' ∧ w'.heap[R]? = some (rO u s') ∧ X.grownBy w' (some R)
set_option maxRecDepth 100000 in
set_option maxHeartbeats 4000000 in
theorem implReadImage_any (s : ByteArray) (hm : s.size ≤ maxLen) (aR bE : Addr) (w : World) (ht : VTabs w) (hS : Sent w aR bE) : Calls Tryz.prog 9 #[.string s] w (RmPost (rmD s) (rmC s) w) := by
  have HX := Lib.hid (Bx.start w bO0)
  have HRF := Lib.hid (fun X (hb : Below w.heap.size w X) => readFrame_any s hm aR bE X (hS.below hb))
  have HBAD := Lib.hid (@rm_bad s)
  by_cases hc : rdC s ≠ 0
  · obtain ⟨e1, e2⟩ := HBAD.out hc
    have HP : Hid (∀ w', Below w.heap.size w w' → RmPost (rmD s) (rmC s) w (.returned (.tuple #[.agg #[.slice none 0 0, .slice none 0 0, .slice none 0 0, .slice none 0 0], .int .i64 (rdC s)])) w') := Lib.hid (fun w' hb => by rw [e1]; exact rm_nil e2 hb)
    have hcb : (rdC s != 0) = true := by rw [bne_iff_ne]; exact hc
    clear hc e1 e2 HBAD
    generalize RmPost (rmD s) (rmC s) w = POST at *
    generalize rdC s = c at *
    generalize rdS s = u at *
    go_enter Tryz.func9, Tryz.ntmps9
    go_wp2_with fail
    refine Calls.mono (HRF.out _ HX.out.bel) ?_
    rintro e w1 ⟨rfl, hb⟩
    have HX := Lib.hid (HX.out.to hb)
    clear hb
    have q0 := cell_of_row _ w.heap.size 0 _ _ _ HX.out.box
    have q1 := cell_of_row _ w.heap.size 1 _ _ _ HX.out.box
    have q2 := cell_of_row _ w.heap.size 2 _ _ _ HX.out.box
    have q3 := cell_of_row _ w.heap.size 3 _ _ _ HX.out.box
    have f0 := frozen_of_row _ w.heap.size 0 _ _ HX.out.box
    have f1 := frozen_of_row _ w.heap.size 1 _ _ HX.out.box
    have f2 := frozen_of_row _ w.heap.size 2 _ _ HX.out.box
    have f3 := frozen_of_row _ w.heap.size 3 _ _ HX.out.box
    go_wp2
    refine bodyPost_ret (v := .tuple #[.agg #[.slice none 0 0, .slice none 0 0, .slice none 0 0, .slice none 0 0], .int .i64 c]) (by simp [results, Tryz.results9, go_sem, q0, q1, q2, q3]) rfl ?_
    exact HP.out _ (bel_set (bel_set (bel_set (bel_set HX.out.bel (Nat.le_refl _) _) (Nat.le_refl _) _) (Nat.le_refl _) _) (Nat.le_refl _) _)
  have hc0 : rdC s = 0 := by simpa using hc
  have HE1 := Lib.hid (@rm_end s hc0)
  have HE2 := Lib.hid (@rm_no s hc0)
  have HE3 := Lib.hid (@rm_yes s hc0)
  have hu := rdS_size s
  rw [hc0] at HRF
  clear hc hc0 HBAD
  obtain ⟨P, hPP⟩ : ∃ P, RmPost (rmD s) (rmC s) w = P := ⟨_, rfl⟩
  have HPP := Lib.hid hPP
  rw [hPP]
  clear hPP
  generalize rdS s = u at *
  have HV := Lib.hid (fun X (hb : Below w.heap.size w X) => And.intro (ht.below hb (Nat.le_refl _)) (hS.below hb))
  have hA : (stA u).p ≤ u.size := cntS_le (Nat.zero_le _)
  have hB : (stB u).p ≤ u.size := manyS_le (fun s h => numS_le h) _ _ hA
  have hD : (stD u).p ≤ u.size := manyS_le (fun s h => codS_le h) _ _ (cntS_le hB)
  have hF : (stF u).p ≤ u.size := manyS_le (fun s h => tkS6_le h) _ _ (cntS_le hD)
  have hG : (stG u).p ≤ u.size := numS_le hF
  have HK : Hid (∀ R, CallN 28 R (pgmP u).n0 (fun X a w' => w'.ownsRow X.heap.size 3 1 (.slice a (pgmP u).n0 (pgmP u).n0) (pgmP u).n0 (kC (pgmP u).ks)) u ⟨0, 0⟩ (stB u) (fun X => ∀ Y, X.grownBy Y (some R) → OpTab Y ∧ Sent Y aR bE)) := Lib.hid (fun R X hST hx => kinds_any R u ⟨0, 0⟩ (Nat.zero_le _) hu aR bE X (fun Y hY => (hST Y hY).2) hx)
  have HRT : Hid (∀ R, CallN 29 R (pgmP u).n1 (fun X a w' => RG X.heap.size w'.heap.size a (pgmP u).n1 (pgmP u).rs w') u (stB u) (stD u) (fun X => ∀ Y, X.grownBy Y (some R) → OpTab Y ∧ Sent Y aR bE)) := Lib.hid (fun R X hST hx => routines_any R u (stB u) hB hu aR bE X hST hx)
  have HTS : Hid (∀ R, CallN 30 R (pgmP u).n2 (fun X a w' => w'.ownsRow X.heap.size 78 6 (.slice a (pgmP u).n2 (pgmP u).n2) (pgmP u).n2 (flat tC (pgmP u).ts)) u (stD u) (stF u) (fun X => ∀ Y, X.grownBy Y (some R) → OpTab Y ∧ Sent Y aR bE)) := Lib.hid (fun R X hST hx => tasks_any R u (stD u) hD hu aR bE X (fun Y hY => (hST Y hY).2) hx)
  have e8 : (pgmP u).n3 = 8 := (pgm_n u).2.2.2
  have HSF : Hid (∀ R, CallN 31 R (pgmP u).n3 (fun X a w' => w'.ownsRow X.heap.size 4 1 (.slice a (pgmP u).n3 (pgmP u).n3) (pgmP u).n3 (flat bI (pgmP u).sa)) u (stF u) (stG u) (fun X => ∀ Y, X.grownBy Y (some R) → OpTab Y ∧ Sent Y aR bE)) := Lib.hid (fun R X hST hx => by rw [e8]; exact safe_any R u (stF u) hF hu aR bE X (fun Y hY => (hST Y hY).2) hx)
  have HEN := Lib.hid (fun R X hx => end_any R u (stG u) hG X hx)
  have HCK := Lib.hid (fun h X ht hz => checkProgram_any h (pgmP u) (pgm_le u maxLen (by decide)) X ht hz)
  clear hA hB hD hF hG ht hS e8 hu hm
  generalize pgmP u = D at *
  generalize stB u = sB at *
  generalize stD u = sD at *
  generalize stF u = sF at *
  generalize stG u = sG at *
  generalize endP u sG = sE at *
  go_enter Tryz.func9, Tryz.ntmps9
  go_wp2_with fail
  refine Calls.mono (HRF.out _ HX.out.bel) ?_
  rintro e w1 ⟨rfl, hb⟩
  have HX := Lib.hid (HX.out.to hb)
  have HR : Hid (w.heap.size < w1.heap.size) := Lib.hid (Array.getElem?_eq_some_iff.1 HX.out.box).1
  have HO := Lib.hid (rO_zero w1 u)
  have HW2 := Lib.hid (HX.out.to (dbox w1 (.cells #[.string u, .int .i64 0] 58)))
  have HG := Lib.hid (World.grownBy.refl (w1.alloc (.cells #[.string u, .int .i64 0] 58)) (some w1.heap.size))
  have HZ2 : Hid (w.heap.size + 1 ≤ (w1.alloc (.cells #[.string u, .int .i64 0] 58)).heap.size) := Lib.hid (by have := HR.out; simp; omega)
  have HST : Hid (∀ X, (w1.alloc (.cells #[.string u, .int .i64 0] 58)).grownBy X (some w1.heap.size) → ∀ Y, X.grownBy Y (some w1.heap.size) → OpTab Y ∧ Sent Y aR bE) := Lib.hid (fun X hX Y hY => by
    have hb := bel_rdg HW2.out.bel (row_tr hX hY) (Nat.le_of_lt HR.out)
    exact ⟨(HV.out Y hb).1.op, (HV.out Y hb).2⟩)
  clear hb
  go_wp2_with fail
  refine Calls.mono (HK.out _ _ (HST.out _ HG.out) HO.out) ?_
  rintro e w3 ⟨g0, rfl, hw, ho, hg⟩
  have K0 := Lib.hid (own_base hw (Nat.le_trans HZ2.out HG.out.size))
  have HO := Lib.hid ho
  have HG := Lib.hid (row_tr HG.out hg)
  clear hw ho hg
  go_wp2_with fail
  refine Calls.mono (HRT.out _ _ (HST.out _ HG.out) HO.out) ?_
  rintro e w4 ⟨g1, rfl, hw, ho, hg⟩
  have K0 := Lib.hid (K0.out.kept hg (Or.inr (own_ne K0.out HO.out (by decide))))
  have K1 := Lib.hid (hw.dn (Nat.le_trans HZ2.out HG.out.size))
  have HO := Lib.hid ho
  have HG := Lib.hid (row_tr HG.out hg)
  have HH1 := Lib.hid (Nat.le_refl w4.heap.size)
  clear hw ho hg
  go_wp2_with fail
  refine Calls.mono (HTS.out _ _ (HST.out _ HG.out) HO.out) ?_
  rintro e w5 ⟨g2, rfl, hw, ho, hg⟩
  have K0 := Lib.hid (K0.out.kept hg (Or.inr (own_ne K0.out HO.out (by decide))))
  have K1 := Lib.hid (K1.out.rk HO.out hg)
  have K2 := Lib.hid (own_base hw (Nat.le_trans HZ2.out HG.out.size))
  have HO := Lib.hid ho
  have HG := Lib.hid (row_tr HG.out hg)
  have HH1 := Lib.hid (Nat.le_trans HH1.out hg.size)
  clear hw ho hg
  go_wp2_with fail
  refine Calls.mono (HSF.out _ _ (HST.out _ HG.out) HO.out) ?_
  rintro e w6 ⟨g3, rfl, hw, ho, hg⟩
  have K0 := Lib.hid (K0.out.kept hg (Or.inr (own_ne K0.out HO.out (by decide))))
  have K1 := Lib.hid (K1.out.rk HO.out hg)
  have K2 := Lib.hid (K2.out.kept hg (Or.inr (own_ne K2.out HO.out (by decide))))
  have K3 := Lib.hid (own_base hw (Nat.le_trans HZ2.out HG.out.size))
  have HO := Lib.hid ho
  have HG := Lib.hid (row_tr HG.out hg)
  have HH1 := Lib.hid (Nat.le_trans HH1.out hg.size)
  clear hw ho hg
  have HOW : Hid (POwn (w.heap.size + 1) w6.heap.size ⟨some ⟨g0, 0, none⟩, some ⟨g1, 0, none⟩, some ⟨g2, 0, none⟩, some ⟨g3, 0, none⟩, D.n0, D.n1, D.n2, D.n3⟩ D w6) := Lib.hid ⟨K0.out, K1.out.hi HH1.out, K2.out, K3.out, lt_own K0.out, lt_own K2.out, lt_own K3.out⟩
  have HBX := Lib.hid (rdg_at HG.out HW2.out.box (by have := HR.out; omega))
  have HBL := Lib.hid (bel_rdg HW2.out.bel HG.out (Nat.le_of_lt HR.out))
  have HR6 := Lib.hid (Array.getElem?_eq_some_iff.1 HO.out).1
  clear K0 K1 K2 K3 HG HW2 HX HH1
  generalize hH : (⟨some ⟨g0, 0, none⟩, some ⟨g1, 0, none⟩, some ⟨g2, 0, none⟩, some ⟨g3, 0, none⟩, D.n0, D.n1, D.n2, D.n3⟩ : PH) = H at *
  have HPV : Hid (Value.agg #[.slice (some ⟨g0, 0, none⟩) D.n0 D.n0, .slice (some ⟨g1, 0, none⟩) D.n1 D.n1, .slice (some ⟨g2, 0, none⟩) D.n2 D.n2, .slice (some ⟨g3, 0, none⟩) D.n3 D.n3] = pV H D) := Lib.hid (by rw [← hH])
  have HPO : Hid (Obj.cells #[.slice (some ⟨g0, 0, none⟩) D.n0 D.n0, .slice (some ⟨g1, 0, none⟩) D.n1 D.n1, .slice (some ⟨g2, 0, none⟩) D.n2 D.n2, .slice (some ⟨g3, 0, none⟩) D.n3 D.n3] 28 = pO H D 28) := Lib.hid (by rw [← hH])
  clear hH
  go_wp2_with fail
  rw [HPO.out]
  have HA := Lib.hid (dbox w6 (pO H D 28))
  have HO := Lib.hid (blk_bel HO.out HA.out)
  have HBX := Lib.hid (blk_bel HBX.out HA.out)
  have HB7 := Lib.hid (heap_alloc_new w6 (pO H D 28))
  have HBL := Lib.hid (HBL.out.trans (HA.out.mono HBL.out.size))
  have HOW := Lib.hid (HOW.out.bel HA.out)
  refine Calls.mono (HEN.out _ _ HO.out) ?_
  rintro e w8 ⟨rfl, ho, hg⟩
  have HOW := Lib.hid (HOW.out.rk HO.out hg)
  have HSZ := Lib.hid (Nat.le_trans HA.out.size hg.size)
  have HO := Lib.hid ho
  have HBX := Lib.hid (rdg_at hg HBX.out (by have := HR.out; omega))
  have HB7 := Lib.hid (rdg_at hg HB7.out (by have := HR6.out; omega))
  have HBL := Lib.hid (bel_rdg HBL.out hg (Nat.le_of_lt HR.out))
  clear ho hg HST HEN HRF HK HRT HTS HSF
  by_cases hsc : sE.c ≠ 0
  · obtain ⟨e1, e2⟩ := HE1.out hsc
    have HP : Hid (∀ w', Below w.heap.size w w' → P (.returned (.tuple #[.agg #[.slice none 0 0, .slice none 0 0, .slice none 0 0, .slice none 0 0], .int .i64 sE.c])) w') := Lib.hid (fun w' hb => by rw [← HPP.out, e1]; exact rm_nil e2 hb)
    have hcb : (sE.c != 0) = true := by rw [bne_iff_ne]; exact hsc
    obtain ⟨d0, d1, _, _⟩ := two_c HO.out
    clear hsc e1 e2
    generalize sE.c = c at *
    have q0 := cell_of_row _ w.heap.size 0 _ _ _ HBX.out
    have q1 := cell_of_row _ w.heap.size 1 _ _ _ HBX.out
    have q2 := cell_of_row _ w.heap.size 2 _ _ _ HBX.out
    have q3 := cell_of_row _ w.heap.size 3 _ _ _ HBX.out
    have f0 := frozen_of_row _ w.heap.size 0 _ _ HBX.out
    have f1 := frozen_of_row _ w.heap.size 1 _ _ HBX.out
    have f2 := frozen_of_row _ w.heap.size 2 _ _ HBX.out
    have f3 := frozen_of_row _ w.heap.size 3 _ _ HBX.out
    have hr1 : ¬ w.heap.size = w1.heap.size := by have := HR.out; omega
    have hr2 : ¬ w1.heap.size = w.heap.size := by have := HR.out; omega
    go_wp2
    go_region
    all_goals
      go_wp2
      refine bodyPost_ret (v := .tuple #[.agg #[.slice none 0 0, .slice none 0 0, .slice none 0 0, .slice none 0 0], .int .i64 c]) (by simp [results, Tryz.results9, go_sem, q0, q1, q2, q3]) rfl ?_
      exact HP.out _ (bel_set (bel_set (bel_set (bel_set (HBL.out.drew) (Nat.le_refl _) _) (Nat.le_refl _) _) (Nat.le_refl _) _) (Nat.le_refl _) _)
  have hs0 : sE.c = 0 := by simpa using hsc
  have HE2 := Lib.hid (HE2.out hs0)
  have HE3 := Lib.hid (HE3.out hs0)
  obtain ⟨d0, d1, _, _⟩ := two_c HO.out
  rw [hs0] at d1
  clear hsc hs0 HE1
  have p0 := cell_of_row _ w6.heap.size 0 _ _ _ HB7.out
  have p1 := cell_of_row _ w6.heap.size 1 _ _ _ HB7.out
  have p2 := cell_of_row _ w6.heap.size 2 _ _ _ HB7.out
  have p3 := cell_of_row _ w6.heap.size 3 _ _ _ HB7.out
  have hLI := HOW.out.lies
  go_wp2_with fail
  refine Calls.mono (HCK.out H _ (HV.out _ HBL.out).1 hLI) ?_
  rintro e w9 ⟨rfl, hb⟩
  have HOW := Lib.hid (HOW.out.bel hb)
  have HBX := Lib.hid (blk_bel HBX.out hb)
  have HB7 := Lib.hid (blk_bel HB7.out hb)
  have HBL := Lib.hid (HBL.out.trans (hb.mono HBL.out.size))
  have HSZ := Lib.hid (Nat.le_trans HSZ.out hb.size)
  clear hb hLI d0 d1 p0 p1 p2 p3 HCK
  have q0 := cell_of_row _ w.heap.size 0 _ _ _ HBX.out
  have q1 := cell_of_row _ w.heap.size 1 _ _ _ HBX.out
  have q2 := cell_of_row _ w.heap.size 2 _ _ _ HBX.out
  have q3 := cell_of_row _ w.heap.size 3 _ _ _ HBX.out
  have f0 := frozen_of_row _ w.heap.size 0 _ _ HBX.out
  have f1 := frozen_of_row _ w.heap.size 1 _ _ HBX.out
  have f2 := frozen_of_row _ w.heap.size 2 _ _ HBX.out
  have f3 := frozen_of_row _ w.heap.size 3 _ _ HBX.out
  by_cases hk : (ckF D).2 ≠ 0
  · obtain ⟨e1, e2⟩ := HE2.out hk
    have HP : Hid (∀ w', Below w.heap.size w w' → P (.returned (.tuple #[.agg #[.slice none 0 0, .slice none 0 0, .slice none 0 0, .slice none 0 0], .int .i64 (ckF D).2])) w') := Lib.hid (fun w' hb => by rw [← HPP.out, e1]; exact rm_nil e2 hb)
    have hcb : ((ckF D).2 != 0) = true := by rw [bne_iff_ne]; exact hk
    clear hk e1 e2 HE2 HE3
    generalize (ckF D).2 = c at *
    go_wp2
    refine bodyPost_ret (v := .tuple #[.agg #[.slice none 0 0, .slice none 0 0, .slice none 0 0, .slice none 0 0], .int .i64 c]) (by simp [results, Tryz.results9, go_sem, q0, q1, q2, q3]) rfl ?_
    exact HP.out _ (bel_set (bel_set (bel_set (bel_set HBL.out (Nat.le_refl _) _) (Nat.le_refl _) _) (Nat.le_refl _) _) (Nat.le_refl _) _)
  · have hk0 : (ckF D).2 = 0 := by simpa using hk
    obtain ⟨e1, e2⟩ := HE3.out hk0
    have HP : Hid (∀ w', POwn w.heap.size w'.heap.size H D w' → Below w.heap.size w w' → P (.returned (.tuple #[pV H D, .int .i64 0])) w') := Lib.hid (fun w' ho hb => by rw [← HPP.out, e1, e2]; exact ⟨H, rfl, ho, hb⟩)
    rw [hk0]
    clear hk hk0 e1 e2 HE2 HE3
    have p0 := cell_of_row _ w6.heap.size 0 _ _ _ HB7.out
    have p1 := cell_of_row _ w6.heap.size 1 _ _ _ HB7.out
    have p2 := cell_of_row _ w6.heap.size 2 _ _ _ HB7.out
    have p3 := cell_of_row _ w6.heap.size 3 _ _ _ HB7.out
    go_wp2
    refine bodyPost_ret (v := .tuple #[pV H D, .int .i64 0]) (by simp [results, Tryz.results9, go_sem, q0, q1, q2, q3]) rfl ?_
    refine HP.out _ ?_ (bel_set (bel_set (bel_set (bel_set HBL.out (Nat.le_refl _) _) (Nat.le_refl _) _) (Nat.le_refl _) _) (Nat.le_refl _) _)
    refine ((((((HOW.out.fr (by omega) _).fr (by omega) _).fr (by omega) _).fr (by omega) _).dn (Nat.le_succ _)).up ?_)
    simp only [World.setCell, Array.size_modify]
    have := HSZ.out
    omega
end Go.Proofs.YtmpppfibeoghaaaGreatDoor
