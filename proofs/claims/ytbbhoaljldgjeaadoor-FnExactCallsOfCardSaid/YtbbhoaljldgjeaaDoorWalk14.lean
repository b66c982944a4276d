/- Code gone through by impl's walk. -/
import Derived.Test.YtbbhoaljldgjeaaDoorWalk13
namespace Go.Proofs.YtbbhoaljldgjeaaDoor
open Go.ChangeShapes Go.WideShapes Go.ChangeAt Go.RowKit
set_option linter.unusedVariables false
theorem step_ok {W : World} {k : Option Addr} {kc : Nat} {ks : List Int} (hg : VGiven W k ks) {p : Nat} {r i : Int} {v : VW} (hp : v.pre) {x y : Int} (hx : okB x y = true) {w : World} (hb : Below W.heap.size W w)
    (h : WStat W.heap.size p (.slice k ks.length kc) r i v w) (h0 : (vStep ks r (x, y) i v).2 = 0) :
    Calls Tryd.prog 70 #[.pointer (some ⟨p, 0, none⟩), .agg #[.int .i64 x, .int .i64 y]] w fun e w' => e = .returned (.tuple #[]) ∧ Below W.heap.size w w' ∧ WStat W.heap.size p (.slice k ks.length kc) r i (vStep ks r (x, y) i v).1 w' :=
  (step_any W k kc ks hg p r i v hp x y hx w hb h).mono fun e w' ⟨h1, h2⟩ => by
    rcases h2 with ⟨_, h3, h4⟩ | ⟨h3, _⟩
    · exact ⟨h3, h1, h4⟩
    · exact absurd h0 h3
theorem step_no {W : World} {k : Option Addr} {kc : Nat} {ks : List Int} (hg : VGiven W k ks) {p : Nat} {r i : Int} {v : VW} (hp : v.pre) {x y : Int} (hx : okB x y = true) {w : World} (hb : Below W.heap.size W w)
    (h : WStat W.heap.size p (.slice k ks.length kc) r i v w) (h0 : (vStep ks r (x, y) i v).2 ≠ 0) :
    Calls Tryd.prog 70 #[.pointer (some ⟨p, 0, none⟩), .agg #[.int .i64 x, .int .i64 y]] w fun e w' => e = Off i (vStep ks r (x, y) i v).2 ∧ Below W.heap.size w w' :=
  (step_any W k kc ks hg p r i v hp x y hx w hb h).mono fun e w' ⟨h1, h2⟩ => by
    rcases h2 with ⟨h3, _⟩ | ⟨_, h3⟩
    · exact absurd h3 h0
    · exact ⟨h3, h1⟩
theorem WStat.cells {B p : Nat} {K : Value} {r i : Int} {v : VW} {w : World} (h : WStat B p K r i v w) : w.cell? ⟨p, 2, none⟩ = some (.int .i64 i) ∧ w.frozen? ⟨p, 2, none⟩ = false := by
  obtain ⟨a, n, c, a', n', c', h⟩ := h
  exact ⟨h.cells.2.2.1, h.frozen 2⟩
theorem WStat.next {B p : Nat} {K : Value} {r i : Int} {v : VW} {w : World} (h : WStat B p K r i v w) (j : Int) : WStat B p K r j v (w.setCell ⟨p, 2, none⟩ (.int .i64 j)) ∧ Below B w (w.setCell ⟨p, 2, none⟩ (.int .i64 j)) := by
  obtain ⟨a, n, c, a', n', c', h⟩ := h
  obtain ⟨h1, h2⟩ := h.next j
  exact ⟨⟨a, n, c, a', n', c', h1⟩, h2.1⟩
/-- What going through code ends with. -/
def PassEnd (B p : Nat) (K : Value) (r : Int) (R : VW × Int × Nat) (w : World) (e : Ending) (w' : World) : Prop :=
  Below B w w' ∧ ((R.2.1 = 0 ∧ e = .returned (.tuple #[]) ∧ WStat B p K r R.2.2 R.1 w' ∧ R.1.pre) ∨ (R.2.1 ≠ 0 ∧ e = Off R.2.2 R.2.1))
theorem vRun_step {ks : List Int} {r : Int} {zs : List Ins} {j : Nat} (h : j < zs.length) (v : VW) : vRun ks r (zs.drop j) j v =
    if (vStep ks r ((zs.getD j (0, 0)).1, (zs.getD j (0, 0)).2) j v).2 = 0 then vRun ks r (zs.drop (j + 1)) (j + 1) (vStep ks r ((zs.getD j (0, 0)).1, (zs.getD j (0, 0)).2) j v).1 else ((vStep ks r ((zs.getD j (0, 0)).1, (zs.getD j (0, 0)).2) j v).1, (vStep ks r ((zs.getD j (0, 0)).1, (zs.getD j (0, 0)).2) j v).2, j) := by
  have e : zs.getD j (0, 0) = zs[j] := by simp [List.getD, h]
  rw [List.drop_eq_getElem_cons h, vRun, e]
set_option maxHeartbeats 1000000 in
theorem pass_any (W : World) (k : Option Addr) (kc : Nat) (ks : List Int) (hg : VGiven W k ks) (p : Nat) (r : Int) (zs : List Ins) (a : Option Addr) (c : Nat) (hn : zs.length ≤ 40) (hz : Lies W a (flat insC zs)) (hok : ∀ j, j < zs.length → okB (zs.getD j (0, 0)).1 (zs.getD j (0, 0)).2 = true)
    (w : World) (hb : Below W.heap.size W w) (h : WStat W.heap.size p (.slice k ks.length kc) r 0 ⟨[], []⟩ w) :
    Calls Tryd.prog 43 #[.pointer (some ⟨p, 0, none⟩), .slice a zs.length c] w (PassEnd W.heap.size p (.slice k ks.length kc) r (vRun ks r zs 0 ⟨[], []⟩) w) := by
  have HG := Lib.hid hg
  have HZ := Lib.hid hz
  have HO := Lib.hid hok
  have HB := Lib.hid hb
  have H := Lib.hid h
  obtain ⟨R, hR⟩ : ∃ R, vRun ks r zs 0 ⟨[], []⟩ = R := ⟨_, rfl⟩
  have HR : Hid (vRun ks r (zs.drop 0) 0 ⟨[], []⟩ = R) := Lib.hid hR
  rw [hR]
  have HPL := Lib.hid h.plt
  clear hg hz hok hb h hR
  generalize hL : zs.length = n at *
  have HL := Lib.hid hL
  clear hL
  go_enter Tryd.func43, Tryd.ntmps43
  go_wp2
  go_loopw [8] (fun i wr => ∃ (j : Nat) (v : VW), j ≤ n ∧ i = .int .i64 j ∧ Hid (vRun ks r (zs.drop j) j v = R) ∧ Hid (WStat W.heap.size p (.slice k ks.length kc) r j v wr) ∧ Hid v.pre ∧ Hid (Below W.heap.size w wr)) (fun i _ => n - (intOf i).toNat)
  case atStart => exact ⟨0, ⟨[], []⟩, Nat.zero_le _, rfl, HR, H, Lib.hid pre_start, Lib.hid (Below.refl _ _)⟩
  case round =>
    obtain ⟨j, v, hj, rfl, hr, hs, hp, hb⟩ := hrel
    by_cases hlt : j < n
    · obtain ⟨b, o, rfl, hbl, hcs⟩ := HZ.out.open (by rw [flat_len insC_len, HL.out]; omega)
      obtain ⟨c0, c1⟩ := ins_at hcs (i := j) (by rw [HL.out]; exact hlt)
      have hWb := (HB.out.trans hb.out)
      have d0 := (hWb.cell (p := ⟨b, o + j * 2, none⟩) hbl).trans c0
      have d1 := (hWb.cell (p := ⟨b, o + j * 2 + 1, none⟩) hbl).trans c1
      have hx := HO.out j hlt
      have hv := vRun_step (ks := ks) (r := r) (zs := zs) (j := j) (by rw [HL.out]; exact hlt) v
      rw [hr.out] at hv
      clear hcs c0 c1 hr
      generalize (zs.getD j (0, 0)).1 = x at *
      generalize (zs.getD j (0, 0)).2 = y at *
      have ha := hb.out.alloc hs.out.low (.cells #[.int .i64 x, .int .i64 y] 38)
      have hs2 := hs.out.bel ((Below.refl wr.heap.size wr).alloc (Nat.le_refl _) (.cells #[.int .i64 x, .int .i64 y] 38))
      have HA := Lib.hid ha
      by_cases h0 : (vStep ks r (x, y) j v).2 = 0
      · have HC := Lib.hid (step_ok HG.out hp.out hx (HB.out.trans ha) hs2 h0)
        rw [if_pos h0] at hv
        have HV := Lib.hid hv
        have HP := Lib.hid (pre_step hp.out h0)
        clear hv h0 hx ha hs2 hWb hs hb hp
        go_wp2_with fail
        refine Calls.mono HC.out ?_
        rintro e w2 ⟨rfl, hb2, hs2⟩
        have HB2 := Lib.hid (HA.out.trans hb2)
        obtain ⟨e2, f2⟩ := hs2.cells
        obtain ⟨hs3, hb3⟩ := hs2.next ((j : Int) + 1)
        have HS3 := Lib.hid (show WStat W.heap.size p (.slice k ks.length kc) r ((j + 1 : Nat) : Int) (vStep ks r (x, y) j v).1 (w2.setCell ⟨p, 2, none⟩ (.int .i64 ((j : Int) + 1))) from hs3)
        have HB3 := Lib.hid (HB2.out.trans hb3)
        clear hb2 hs2 hs3 hb3 d0 d1
        go_wp2
        go_roundw
        case rel => exact ⟨j + 1, (vStep ks r (x, y) j v).1, by omega, by go_num, Lib.hid HV.out.symm, HS3, HP, HB3⟩
        case measure => simp [intOf]; omega
      · have HC := Lib.hid (step_no HG.out hp.out hx (HB.out.trans ha) hs2 h0)
        rw [if_neg h0] at hv
        have HV := Lib.hid hv
        have H0 := Lib.hid h0
        clear hv h0 hx ha hs2 hWb hs hb hp
        go_wp2_with fail
        refine Calls.mono HC.out ?_
        rintro e w2 ⟨rfl, hb2⟩
        exact ⟨rfl, HA.out.trans hb2, .inr (by rw [HV.out]; exact ⟨H0.out, rfl⟩)⟩
    · obtain rfl : j = n := by omega
      have HV : Hid (R = (v, 0, j)) := Lib.hid (by rw [← hr.out, List.drop_eq_nil_of_le (by rw [HL.out]; exact Nat.le_refl _)]; rfl)
      clear hr
      go_wp2
      go_end0
      exact ⟨hb.out, .inl (by rw [HV.out]; exact ⟨rfl, rfl, hs.out, hp.out⟩)⟩
end Go.Proofs.YtbbhoaljldgjeaaDoor
