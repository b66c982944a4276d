/- Programs: their four lists as they lie in memory; the laws' comparison of programs. -/
import Derived.Test.YtppgknjpbfopjaaGreatDoorTsk
import Derived.Test.YtppgknjpbfopjaaGreatDoorBits
import Derived.Test.YtppgknjpbfopjaaGreatDoorInsRow
import Derived.Lib.OwnKind
namespace Go.Proofs.YtppgknjpbfopjaaGreatDoor
open Go.ChangeShapes Go.WideShapes Go.ChangeAt Go.RowKit
set_option linter.unusedVariables false
theorem pg_ri {a b : Int} (h : a = b) : Ending.returned (.int .i64 a) = .returned (.int .i64 b) := by rw [h]
/-- A list of routines: each is a slice; its instructions lie behind it. -/
abbrev RTp := Option Addr × Nat × Nat
def rpC (z : RTp) : List Value := [.slice z.1 z.2.1 z.2.2]
theorem rpC_len (z : RTp) : (rpC z).length = 1 := rfl
def r0 : RTp := (none, 0, 0)
structure RL (w : World) (a : Option Addr) (ls : List (List (Int × Int))) : Prop where
  rows : ∃ rs : List RTp, rs.length = ls.length ∧ Lies w a (flat rpC rs) ∧ ∀ j, j < ls.length → (rs.getD j r0).2.1 = (ls.getD j []).length ∧ Lies w (rs.getD j r0).1 (flat insC (ls.getD j []))
theorem RL.below {B : Nat} {w w' : World} {a : Option Addr} {ls : List (List (Int × Int))} (h : RL w a ls) (hb : Below B w w') (hB : w.heap.size ≤ B) : RL w' a ls := by
  obtain ⟨rs, h1, h2, h3⟩ := h.rows
  exact ⟨rs, h1, h2.below hb hB, fun j hj => ⟨(h3 j hj).1, (h3 j hj).2.below hb hB⟩⟩
theorem RL.at {w : World} {a : Option Addr} {ls : List (List (Int × Int))} (h : RL w a ls) {j : Nat} (hj : j < ls.length) : ∃ b o x c, a = some ⟨b, o, none⟩ ∧ b < w.heap.size ∧ w.cell? ⟨b, o + j, none⟩ = some (.slice x (ls.getD j []).length c) ∧ Lies w x (flat insC (ls.getD j [])) := by
  obtain ⟨rs, h1, h2, h3⟩ := h.rows
  obtain ⟨b, o, rfl, hb, hc⟩ := h2.open (by rw [flat_len rpC_len]; omega)
  have hx : rs[j]? = some (rs.getD j r0) := by simp [List.getD, h1, hj]
  have h0 := flat_at rpC_len hx (j := 0) (by omega)
  rw [Nat.mul_one, Nat.add_zero] at h0
  have hcell := hc j _ h0
  refine ⟨b, o, (rs.getD j r0).1, (rs.getD j r0).2.2, rfl, hb, ?_, (h3 j hj).2⟩
  rw [hcell, ← (h3 j hj).1]
structure Pgm where
  ks : List Int
  rs : List (List (Int × Int))
  ts : List TT
  sa : List Bool
def Pgm.n0 (D : Pgm) : Nat := D.ks.length
def Pgm.n1 (D : Pgm) : Nat := D.rs.length
def Pgm.n2 (D : Pgm) : Nat := D.ts.length
def Pgm.n3 (D : Pgm) : Nat := D.sa.length
/-- Where the lists lie, and their capacities. -/
structure PH where
  a0 : Option Addr
  a1 : Option Addr
  a2 : Option Addr
  a3 : Option Addr
  c0 : Nat
  c1 : Nat
  c2 : Nat
  c3 : Nat
abbrev pV (h : PH) (D : Pgm) : Value := .agg #[.slice h.a0 D.n0 h.c0, .slice h.a1 D.n1 h.c1, .slice h.a2 D.n2 h.c2, .slice h.a3 D.n3 h.c3]
abbrev pO (h : PH) (D : Pgm) (t : TypeId) : Obj := .cells #[.slice h.a0 D.n0 h.c0, .slice h.a1 D.n1 h.c1, .slice h.a2 D.n2 h.c2, .slice h.a3 D.n3 h.c3] t
structure PLies (w : World) (h : PH) (D : Pgm) : Prop where
  ks : Lies w h.a0 (kC D.ks)
  rs : RL w h.a1 D.rs
  ts : Lies w h.a2 (flat tC D.ts)
  sa : Lies w h.a3 (flat bI D.sa)
theorem PLies.below {B : Nat} {w w' : World} {h : PH} {D : Pgm} (l : PLies w h D) (g : Below B w w') (hB : w.heap.size ≤ B) : PLies w' h D :=
  ⟨l.ks.below g hB, l.rs.below g hB, l.ts.below g hB, l.sa.below g hB⟩
structure Pgm.le (D : Pgm) (n : Nat) : Prop where
  h0 : D.n0 ≤ n
  h1 : D.n1 ≤ n
  h2 : D.n2 ≤ n
  h3 : D.n3 ≤ n
  hr : ∀ j, j < D.rs.length → (D.rs.getD j []).length ≤ n
theorem eqRt_same (zs : List (Int × Int)) (a b : Option Addr) (c d : Nat) (hn : zs.length ≤ 1048576) (w : World) (hz : Lies w a (flat insC zs)) (hy : Lies w b (flat insC zs)) :
    Calls Tryz.prog 90 #[.agg #[.slice a zs.length c], .agg #[.slice b zs.length d]] w fun e w' => e = .returned (.bool true) ∧ Below w.heap.size w w' := by
  have HE := Lib.hid (fun w hz hy => eqInstrS_same zs a b c d hn w hz hy)
  have HB : Hid (∀ O O' : Obj, Below w.heap.size w ((w.alloc O).alloc O')) := Lib.hid (fun O O' => ((Below.refl w.heap.size w).alloc (Nat.le_refl _) O).alloc (by simp) O')
  have HZ := Lib.hid hz
  have HY := Lib.hid hy
  clear hz hy
  generalize zs.length = n at *
  go_enter Tryz.func90, Tryz.ntmps90
  go_wp2_with fail
  refine Calls.mono (HE.out _ (HZ.out.below (HB.out _ _) (Nat.le_refl _)) (HY.out.below (HB.out _ _) (Nat.le_refl _))) ?_
  rintro e w1 ⟨rfl, hb1⟩
  have Hb1 := Lib.hid ((HB.out _ _).trans (hb1.mono (HB.out _ _).size))
  clear hb1
  go_wp2
  go_ret
  exact ⟨rfl, Hb1.out⟩
theorem eqRts_same (ls : List (List (Int × Int))) (a b : Option Addr) (c d : Nat) (hn : ls.length ≤ 1048576) (hl : ∀ j, j < ls.length → (ls.getD j []).length ≤ 1048576) (w : World) (hz : RL w a ls) (hy : RL w b ls) :
    Calls Tryz.prog 42 #[.slice a ls.length c, .slice b ls.length d] w fun e w' => e = .returned (.bool true) ∧ Below w.heap.size w w' := by
  have HA := Lib.hid (fun w a (h : RL w a ls) j (hj : j < ls.length) => h.at hj)
  have HZ := Lib.hid hz
  have HY := Lib.hid hy
  have HM := Lib.hid hl
  clear hz hy hl
  generalize hL : ls.length = n at *
  have HL := Lib.hid hL
  clear hL
  have hs : ((n : Int) != n) = false := by simp
  go_enter Tryz.func42, Tryz.ntmps42
  go_wp2
  go_loopw [5] (fun i wr => ∃ k : Nat, k ≤ n ∧ i = .int .i64 k ∧ Hid (Below w.heap.size w wr)) (fun i _ => n - (intOf i).toNat)
  case atStart => exact ⟨0, Nat.zero_le _, rfl, Lib.hid (Below.refl _ _)⟩
  case round =>
    obtain ⟨k, hk, rfl, hb⟩ := hrel
    by_cases hlt : k < n
    · obtain ⟨b1, o1, x1, c1, rfl, hb1, hc1, hz1⟩ := HA.out w a HZ.out k hlt
      obtain ⟨b2, o2, x2, c2, rfl, hb2, hc2, hz2⟩ := HA.out w b HY.out k hlt
      have d0 := (hb.out.cell (p := ⟨b1, o1 + k, none⟩) hb1).trans hc1
      have d1 := (hb.out.cell (p := ⟨b2, o2 + k, none⟩) hb2).trans hc2
      have HE := Lib.hid (fun w2 (h : Below w.heap.size w w2) => eqRt_same (ls.getD k []) x1 x2 c1 c2 (HM.out k hlt) w2 (hz1.below h (Nat.le_refl _)) (hz2.below h (Nat.le_refl _)))
      clear hc1 hc2 hz1 hz2
      generalize (ls.getD k []).length = q at *
      go_wp2_with fail
      go_region_with (go_at_call 90; refine Calls.mono (HE.out _ (by exact bel_dn hb.out 1)) ?_; rintro e w2 ⟨rfl, hb3⟩; have Hb3 := Lib.hid (hb.out.trans ((below_from (n := 1) hb3 (Nat.le_refl _)).mono hb.out.size)); clear hb3)
      all_goals go_wp2
      all_goals go_roundw
      all_goals first | exact ⟨k + 1, by omega, by go_num, Hb3⟩ | (simp [intOf]; omega)
    · obtain rfl : k = n := by omega
      go_wp2
      go_ret
      exact ⟨rfl, hb.out⟩
theorem eqProgram_same (h h' : PH) (D : Pgm) (hn : D.le 1048576) (w : World) (hz : PLies w h D) (hy : PLies w h' D) :
    Calls Tryz.prog 12 #[pV h D, pV h' D] w fun e w' => e = .returned (.bool true) ∧ Below w.heap.size w w' := by
  have HZ := Lib.hid hz
  have HY := Lib.hid hy
  have HX := Lib.hid (Bx2.start w (pO h D 35) (pO h' D 35))
  have HE0 := Lib.hid (fun w hz hy => eqIntS_same D.ks h.a0 h'.a0 h.c0 h'.c0 hn.h0 w hz hy)
  have HE1 := Lib.hid (fun w hz hy => eqRts_same D.rs h.a1 h'.a1 h.c1 h'.c1 hn.h1 hn.hr w hz hy)
  have HE2 := Lib.hid (fun w hz hy => eqTaskS_same D.ts h.a2 h'.a2 h.c2 h'.c2 hn.h2 w hz hy)
  have HE3 := Lib.hid (fun w hz hy => eqBoolS_same D.sa h.a3 h'.a3 h.c3 h'.c3 hn.h3 w hz hy)
  clear hz hy
  go_enter Tryz.func12, Tryz.ntmps12
  go_wp2_with fail
  refine Calls.mono (HE0.out _ ((HZ.out.below HX.out.bel (Nat.le_refl _)).ks) ((HY.out.below HX.out.bel (Nat.le_refl _)).ks)) ?_
  rintro e w1 ⟨rfl, hb1⟩
  have HX := Lib.hid (HX.out.to hb1)
  clear hb1
  have q0 := cell_of_row w1 w.heap.size 1 _ _ _ HX.out.box
  have q1 := cell_of_row w1 (w.heap.size + 1) 1 _ _ _ HX.out.box2
  go_wp2_with fail
  refine Calls.mono (HE1.out _ ((HZ.out.below HX.out.bel (Nat.le_refl _)).rs) ((HY.out.below HX.out.bel (Nat.le_refl _)).rs)) ?_
  rintro e w2 ⟨rfl, hb1⟩
  have HX := Lib.hid (HX.out.to hb1)
  clear hb1 q0 q1
  have q0 := cell_of_row w2 w.heap.size 2 _ _ _ HX.out.box
  have q1 := cell_of_row w2 (w.heap.size + 1) 2 _ _ _ HX.out.box2
  go_wp2_with fail
  refine Calls.mono (HE2.out _ ((HZ.out.below HX.out.bel (Nat.le_refl _)).ts) ((HY.out.below HX.out.bel (Nat.le_refl _)).ts)) ?_
  rintro e w3 ⟨rfl, hb1⟩
  have HX := Lib.hid (HX.out.to hb1)
  clear hb1 q0 q1
  have q0 := cell_of_row w3 w.heap.size 3 _ _ _ HX.out.box
  have q1 := cell_of_row w3 (w.heap.size + 1) 3 _ _ _ HX.out.box2
  go_wp2_with fail
  refine Calls.mono (HE3.out _ ((HZ.out.below HX.out.bel (Nat.le_refl _)).sa) ((HY.out.below HX.out.bel (Nat.le_refl _)).sa)) ?_
  rintro e w4 ⟨rfl, hb1⟩
  have HX := Lib.hid (HX.out.to hb1)
  clear hb1 q0 q1
  go_wp2
  go_ret
  exact ⟨rfl, HX.out.bel⟩
end Go.Proofs.YtppgknjpbfopjaaGreatDoor
