/- Drawn pieces of code: what l04Op, l04OpA and l04Cat make. -/
import Derived.Test.YthhmhglgjeaefaaDoorRouts
import Derived.Test.YthhmhglgjeaefaaDoorDrawIns
import Derived.Test.YthhmhglgjeaefaaDoorVerD
namespace Go.Proofs.YthhmhglgjeaefaaDoor
open Go.ChangeShapes Go.WideShapes Go.ChangeAt Go.RowKit
set_option linter.unusedVariables false
/-- A row that lies above the source's block. -/
def LP (w : World) (p : Nat) (a : Option Addr) (cs : List Value) : Prop := Lies w a cs ∧ ∀ b o, a = some (⟨b, o, none⟩ : Addr) → p < b
theorem LP.grown {w w' : World} {p : Nat} {a : Option Addr} {cs : List Value} (h : LP w p a cs) (g : w.grownBy w' (some p)) : LP w' p a cs :=
  ⟨h.1.grown g (fun b o e q => by injection q with q; have := h.2 b o e; omega), h.2⟩
theorem LP.bel {w w' : World} {p : Nat} {a : Option Addr} {cs : List Value} (h : LP w p a cs) (g : Below w.heap.size w w') : LP w' p a cs := ⟨h.1.below g (Nat.le_refl _), h.2⟩
theorem bel_al (w : World) (o : Obj) : Below w.heap.size w (w.alloc o) := (Below.refl w.heap.size w).alloc (Nat.le_refl _) o
theorem LP.al {w : World} {p : Nat} {a : Option Addr} {cs : List Value} (h : LP w p a cs) (o : Obj) : LP (w.alloc o) p a cs := h.bel (bel_al w o)
theorem grown_bel {w w' : World} (hb : Below w.heap.size w w') (row : Option Nat) : w.grownBy w' row := ⟨hb.os, hb.tape, hb.output, hb.size, fun k hk _ => hb.block k hk⟩
theorem grown_al {a b : World} {p : Nat} (h : a.grownBy b (some p)) (o : Obj) : a.grownBy (b.alloc o) (some p) := grown_tr h (grown_bel (bel_al b o) _)
/-- The source, and the kinds that are drawn for. -/
structure DK (w : World) (B p N : Nat) (k : Option Addr) (ks : List Int) : Prop where
  src : Src w B p N
  ks : Lies w k (kC ks)
  ne : ∀ b o, k = some (⟨b, o, none⟩ : Addr) → b ≠ p
theorem DK.step {w w' : World} {B p N M : Nat} {k : Option Addr} {ks : List Int} (h : DK w B p N k ks) (hS : Src w' B p M) (hg : w.grownBy w' (some p)) : DK w' B p M k ks :=
  ⟨hS, h.ks.grown hg (fun b o e q => by injection q with q; exact h.ne b o e q.symm), h.ne⟩
theorem DK.bel {w w' : World} {B p N : Nat} {k : Option Addr} {ks : List Int} (h : DK w B p N k ks) (hb : Below w.heap.size w w') : DK w' B p N k ks :=
  h.step (h.src.grown (grown_bel hb none) (by intro e; cases e) (by intro k e; cases e)) (grown_bel hb _)
theorem DK.al {w : World} {B p N : Nat} {k : Option Addr} {ks : List Int} (h : DK w B p N k ks) (o : Obj) : DK (w.alloc o) B p N k ks := h.bel (bel_al w o)
theorem DK.more {w : World} {B p N M : Nat} {k : Option Addr} {ks : List Int} (h : DK w B p N k ks) (g : N ≤ M) : DK w B p M k ks := ⟨h.src.more g, h.ks, h.ne⟩
theorem DK.plt {w : World} {B p N : Nat} {k : Option Addr} {ks : List Int} (h : DK w B p N k ks) : p < w.heap.size := h.src.2.1
/-- A number is drawn. -/
def NumP (B p N : Nat) (k : Option Addr) (ks : List Int) (lo hi : Int) (w : World) (e : Ending) (w' : World) : Prop :=
  ∃ v : Int, e = .returned (.int .i64 v) ∧ lo ≤ v ∧ v ≤ hi ∧ DK w' B p N k ks ∧ w.grownBy w' (some p)
theorem next_dk {B p N : Nat} {k : Option Addr} {ks : List Int} (n : Int) (w : World) (h : DK w B p N k ks) (hN : N ≤ 1000000) (h1 : 1 ≤ n) (h2 : n ≤ 1000000000) :
    Calls Tryd.prog 37 #[.pointer (some ⟨p, 0, none⟩), .int .i64 n] w (NumP B p (N + 3) k ks 0 (n - 1) w) := by
  by_cases h3 : 2 ≤ n
  · refine (next_any B p N n w h.src (by omega) h3 h2).mono ?_
    rintro e w' ⟨v, rfl, v0, v1, hS, hg⟩
    exact ⟨v, rfl, v0, v1, h.step hS hg, hg⟩
  · obtain rfl : n = 1 := by omega
    have H := Lib.hid h
    clear h
    go_enter Tryd.func37, Tryd.ntmps37
    go_wp2
    go_ret
    exact ⟨0, rfl, by omega, by omega, H.out.more (by omega), World.grownBy.refl _ _⟩
theorem value_dk {B p N : Nat} {k : Option Addr} {ks : List Int} (w : World) (h : DK w B p N k ks) (hN : N ≤ 1000000) :
    Calls Tryd.prog 57 #[.pointer (some ⟨p, 0, none⟩)] w (NumP B p (N + 7) k ks (-2147483648) 2147483647 w) := by
  refine (value_any B p N w h.src (by omega)).mono ?_
  rintro e w' ⟨v, rfl, v0, v1, hS, hg⟩
  exact ⟨v, rfl, v0, v1, h.step hS hg, hg⟩
theorem chance_dk {B p N : Nat} {k : Option Addr} {ks : List Int} (n : Int) (w : World) (h : DK w B p N k ks) (hN : N ≤ 1000000) (h1 : 1 ≤ n) (h2 : n ≤ 1000000000) :
    Calls Tryd.prog 38 #[.pointer (some ⟨p, 0, none⟩), .int .i64 n] w fun e w' => ∃ q : Bool, e = .returned (.bool q) ∧ DK w' B p (N + 3) k ks ∧ w.grownBy w' (some p) := by
  have H := Lib.hid h
  clear h
  go_enter Tryd.func38, Tryd.ntmps38
  go_wp2_with fail
  refine (next_dk n w H.out hN h1 h2).mono ?_
  rintro e w' ⟨v, rfl, v0, v1, hD, hg⟩
  have HD := Lib.hid (And.intro hD hg)
  clear hD hg
  go_wp2
  go_ret
  exact ⟨_, rfl, HD.out⟩
theorem one_ins (w : World) (x y : Int) : Lies (w.alloc (.cells #[.int .i64 x, .int .i64 y] 38)) (some ⟨w.heap.size, 0, none⟩) (flat insC [(x, y)]) := by
  refine .inr ⟨w.heap.size, 0, rfl, fun j v h => ?_⟩
  match j, h with
  | 0, h => simp [flat, insC] at h; subst h; simp
  | 1, h => simp [flat, insC] at h; subst h; simp
  | j + 2, h => simp [flat, insC] at h
theorem opA_any (x y : Int) (w : World) : Calls Tryd.prog 66 #[.int .i64 x, .int .i64 y] w fun e w' => e = .returned (.slice (some ⟨w.heap.size, 0, none⟩) 1 1) ∧ w' = w.alloc (.cells #[.int .i64 x, .int .i64 y] 38) := by
  go_enter Tryd.func66, Tryd.ntmps66
  go_wp2
  go_ret
  exact ⟨rfl, rfl⟩
theorem op_any (x : Int) (w : World) : Calls Tryd.prog 68 #[.int .i64 x] w fun e w' => e = .returned (.slice (some ⟨w.heap.size, 0, none⟩) 1 1) ∧ w' = w.alloc (.cells #[.int .i64 x, .int .i64 0] 38) := by
  go_enter Tryd.func68, Tryd.ntmps68
  go_wp2
  go_ret
  exact ⟨rfl, rfl⟩
theorem one_lp {w : World} {p : Nat} (h : p < w.heap.size) (x y : Int) : LP (w.alloc (.cells #[.int .i64 x, .int .i64 y] 38)) p (some ⟨w.heap.size, 0, none⟩) (flat insC [(x, y)]) :=
  ⟨one_ins w x y, fun b o e => by injection e with e; injection e with e; omega⟩
theorem addr_add (g o j : Nat) : (⟨g, o, none⟩ : Addr).add j = ⟨g, o + j, none⟩ := by
  unfold Addr.add
  split <;> simp_all
theorem ins_all1 (zs : List Ins) : ∀ u ∈ flat insC zs, u.oneCell' = true := by
  intro u hu
  unfold flat at hu
  simp only [List.mem_flatMap] at hu
  obtain ⟨z, _, hz⟩ := hu
  simp only [insC, List.mem_cons, List.not_mem_nil, or_false] at hz
  rcases hz with rfl | rfl <;> simp [Value.oneCell']
/-- The first j lists put together. -/
def catL (ls : List (List Ins)) (j : Nat) : List Ins := (ls.take j).flatten
theorem catL_succ {ls : List (List Ins)} {j : Nat} (h : j < ls.length) : catL ls (j + 1) = catL ls j ++ ls.getD j [] := by
  have e : ls.getD j [] = ls[j] := by simp [List.getD, h]
  unfold catL
  rw [List.take_succ_eq_append_getElem h, List.flatten_append, e]
  exact congrArg _ (List.append_nil _)
theorem catL_all (ls : List (List Ins)) : catL ls ls.length = ls.flatten := by unfold catL; rw [List.take_length]
def CatP (B : Nat) (zs : List Ins) (w : World) (e : Ending) (w' : World) : Prop :=
  ∃ (a : Option Addr) (m c : Nat), e = .returned (.slice a m c) ∧ zs.length = m ∧ w'.ownsRow B 38 2 (.slice a m c) m (flat insC zs) ∧ Below B w w'
theorem l04Cat_any (ls : List (List Ins)) (a : Option Addr) (c : Nat) (w : World) (hn : ls.length ≤ 10) (hl : ∀ j, j < ls.length → 1 ≤ (ls.getD j []).length ∧ (ls.getD j []).length ≤ 1000) (hz : Routs w a ls) :
    Calls Tryd.prog 64 #[.slice a ls.length c] w (CatP w.heap.size ls.flatten w) := by
  have HM := Lib.hid hl
  have HZ := Lib.hid hz
  have HA := Lib.hid (fun w (h : Routs w a ls) j (hj : j < ls.length) => h.at hj)
  have HP : Hid (∀ (x : Option Addr) (m q : Nat) w', (catL ls ls.length).length = m → w'.ownsRow w.heap.size 38 2 (.slice x m q) m (flat insC (catL ls ls.length)) → Below w.heap.size w w' → CatP w.heap.size ls.flatten w (.returned (.slice x m q)) w') :=
    Lib.hid (fun x m q w' hm ho hb => by rw [catL_all] at *; exact ⟨x, m, q, rfl, hm, ho, hb⟩)
  obtain ⟨i0, hi, hz0, hz1, hz2⟩ := info_parts (show (Tryd.prog.info? 38).map (fun i => (i.zero, i.size, i.bytes)) = some (some (.agg #[.int .i64 0, .int .i64 0]), 2, 16) by kernel_rfl)
  have HI := Lib.hid (And.intro hi (And.intro hz0 (And.intro hz1 hz2)))
  have HS := Lib.hid (fun j h => catL_succ (ls := ls) (j := j) h)
  clear hi hz0 hz1 hz2 hl hz
  generalize CatP w.heap.size ls.flatten w = POST at *
  generalize hL : ls.length = n at *
  have HL := Lib.hid hL
  clear hL
  go_enter Tryd.func64, Tryd.ntmps64
  go_wp2
  go_loopw [3, 4] (fun v i wr => ∃ (k m q : Nat) (x : Option Addr), k ≤ n ∧ m ≤ 1000 * k ∧ i = .int .i64 k ∧ v = .slice x m q ∧ Hid ((catL ls k).length = m) ∧ Hid (wr.ownsRow w.heap.size 38 2 (.slice x m q) m (flat insC (catL ls k))) ∧ Hid (Below w.heap.size w wr)) (fun _ i _ => n - (intOf i).toNat)
  case atStart => exact ⟨0, 0, 0, some ⟨w.heap.size, 0, none⟩, Nat.zero_le _, by omega, rfl, rfl, Lib.hid rfl, Lib.hid (World.ownsRow_lit w #[] 0 (Nat.le_refl _) (Nat.zero_le _) rfl), Lib.hid (bel_al w _)⟩
  case round =>
    obtain ⟨k, m, q, x, hk, hmk, rfl, rfl, hlen, ho, hb⟩ := hrel
    by_cases hlt : k < n
    · obtain ⟨b, o, y, c2, rfl, hbl, hcell, hlies⟩ := HA.out w HZ.out k hlt
      have d0 := (hb.out.cell (p := ⟨b, o + k, none⟩) hbl).trans hcell
      have HY := Lib.hid (hlies.below hb.out (Nat.le_refl _))
      have hm2 := HM.out k hlt
      have HT := Lib.hid (HS.out k hlt)
      clear hcell hlies
      generalize ls.getD k [] = zs at *
      obtain ⟨g, o2, rfl, hgl, hcs⟩ := HY.out.open (by rw [flat_len insC_len]; omega)
      have HC := Lib.hid hcs
      obtain ⟨H1, H2, H3, H4⟩ := HI.out
      have hfl := flat_len insC_len zs
      clear hcs
      generalize hz : zs.length = z at *
      go_wp2_with (at_builtin; go_must (refine wpList_append_own _ rfl (.tmp 12) (.tmp 16) _ rfl w.heap.size 38 i0 _ 2 16 Tryd.underlying25 H1 H2 H3 H4 rfl (by decide) (.slice x m q) m (flat insC (catL ls k)) rfl ho.out ⟨g, o2, none⟩ z c2 (flat insC zs) rfl (by rw [hfl]) (by intro j u hj; rw [addr_add]; exact HC.out j u hj) (ins_all1 zs) (by unfold maxLen; omega) (by omega) hb.out.size ?_); intro v3 w3 g3 g4 _; obtain ⟨a3, c3, hv3⟩ := own_slice g3; subst hv3)
      have HO4 : Hid (w3.ownsRow w.heap.size 38 2 (.slice a3 (m + z) c3) (m + z) (flat insC (catL ls (k + 1)))) := Lib.hid (own_cast g3 rfl (by rw [HT.out, flat_app]))
      have HL4 : Hid ((catL ls (k + 1)).length = m + z) := Lib.hid (by rw [HT.out, List.length_append, hlen.out, hz])
      have HB4 : Hid (Below w.heap.size w w3) := Lib.hid (hb.out.grown g4 hb.out.size (fun q hq => (ho.out.lt q hq).1))
      clear g3 g4
      go_roundw
      case rel => exact ⟨k + 1, m + z, c3, a3, by omega, by omega, by go_num, rfl, HL4, HO4, HB4⟩
      case measure => simp [intOf]; omega
    · obtain rfl : k = n := by omega
      go_wp2
      exact HP.out _ _ _ _ hlen.out ho.out hb.out
end Go.Proofs.YthhmhglgjeaefaaDoor
