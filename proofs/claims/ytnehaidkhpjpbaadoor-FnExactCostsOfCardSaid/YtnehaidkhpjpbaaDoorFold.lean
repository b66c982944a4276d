/- The pass over code: fold with read. -/
import Derived.Test.YtnehaidkhpjpbaaDoorReg4
import Derived.Test.YtnehaidkhpjpbaaDoorAcc
namespace Go.Proofs.YtnehaidkhpjpbaaDoor
open Go.ChangeShapes Go.WideShapes Go.ChangeAt Go.RowKit
set_option linter.unusedVariables false
theorem lies_ins {w : World} {a : Option Addr} {zs : List Ins} (h : Lies w a (flat insC zs)) {j : Nat} (hj : j < zs.length) : ∃ b o : Nat, a = some ⟨b, o, none⟩ ∧ b < w.heap.size ∧ w.cell? ⟨b, o + j * 2, none⟩ = some (.int .i64 (zs.getD j (0, 0)).1) ∧ w.cell? ⟨b, o + j * 2 + 1, none⟩ = some (.int .i64 (zs.getD j (0, 0)).2) := by
  obtain ⟨b, o, e, hb, hc⟩ := h.open (by rw [flat_len insC_len]; omega)
  obtain ⟨h0, h1⟩ := ins_at hc hj
  exact ⟨b, o, e, hb, h0, h1⟩
theorem rgRun_take {known : List SM} {os : List RG} {zs : List Ins} {j : Nat} (hj : j < zs.length) {b : List RG} {top : RG} (h : rgRun known os (zs.take j) = b ++ [top]) : rgRun known os (zs.take (j + 1)) = rgStep known b top (zs.getD j (0, 0)) := by
  have e : zs.take (j + 1) = zs.take j ++ [zs.getD j (0, 0)] := by
    rw [List.take_succ_eq_append_getElem hj]
    simp [List.getD, hj]
  rw [e, rgRun_app, h, rgRun_one, rgRead_snoc]
def FoldPost (B : Nat) (os : List RG) (w : World) (e : Ending) (w' : World) : Prop := Below B w w' ∧ ∃ g n c, e = .returned (.slice (some ⟨g, 0, none⟩) n c) ∧ RRow B g n c os w'
set_option maxRecDepth 100000 in
set_option maxHeartbeats 2000000 in
theorem foldR_any (B : Nat) (ka : Option Addr) (kc : Nat) (known : List SM) (za : Option Addr) (zc : Nat) (zs : List Ins) (g nn c : Nat) (os : List RG) (w : World) (hB : B ≤ w.heap.size) (hG : 0 < B) (ht : OpTab w) (hk : Kn B ka known w) (hko : ∀ a ∈ known, a.ok)
    (hz : ∃ w0 : World, Lies w0 za (flat insC zs) ∧ w0.heap.size ≤ B ∧ Below B w0 w) (hn : zs.length ≤ 40) (hrow : RRow B g nn c os w) (hst : ∀ j, j < zs.length → StepOK known (rgRun known os (zs.take j)) (zs.getD j (0, 0))) :
    Calls Tryd.prog 145 #[.slice za zs.length zc, .slice (some ⟨g, 0, none⟩) nn c, .func (.func 147) #[.slice ka known.length kc] #[]] w (FoldPost B (rgRun known os zs) w) := by
  obtain ⟨w0, hz0, hz1, hz2⟩ := hz
  have HS : Hid (Below B w w ∧ ∃ g' n' c', Value.slice (some ⟨g, 0, none⟩) nn c = .slice (some ⟨g', 0, none⟩) n' c' ∧ RRow B g' n' c' (rgRun known os (zs.take 0)) w) := Lib.hid ⟨Below.refl _ _, g, nn, c, rfl, by simpa [rgRun] using hrow⟩
  have HZ : Hid (∀ wr, Below B w wr → ∀ j, j < zs.length → ∃ b o : Nat, za = some ⟨b, o, none⟩ ∧ b < wr.heap.size ∧ wr.cell? ⟨b, o + j * 2, none⟩ = some (.int .i64 (zs.getD j (0, 0)).1) ∧ wr.cell? ⟨b, o + j * 2 + 1, none⟩ = some (.int .i64 (zs.getD j (0, 0)).2)) :=
    Lib.hid (fun wr hb j hj => lies_ins (hz0.below (hz2.trans hb) hz1) hj)
  have HT := Lib.hid (fun wr (hb : Below B w wr) => optab_bel ht hb hG)
  have HK := Lib.hid (fun wr (hb : Below B w wr) => hk.bel hb)
  have HKO := Lib.hid hko
  have HST := Lib.hid hst
  have HTK : Hid (∀ j, j < zs.length → ∀ b top, rgRun known os (zs.take j) = b ++ [top] → rgRun known os (zs.take (j + 1)) = rgStep known b top (zs.getD j (0, 0))) := Lib.hid (fun j hj b top h => rgRun_take hj h)
  have HE : Hid (rgRun known os (zs.take zs.length) = rgRun known os zs) := Lib.hid (by rw [List.take_length])
  clear ht hk hko hz0 hz1 hz2 hst hrow
  have HL := Lib.hid (rfl : zs.length = zs.length)
  generalize hL : zs.length = n at *
  clear hL
  go_enter Tryd.func145, Tryd.ntmps145
  go_wp2
  go_loopw [1, 11] (fun s i wr => ∃ j : Nat, j ≤ n ∧ i = .int .i64 j ∧ Hid (Below B w wr ∧ ∃ g' n' c', s = .slice (some ⟨g', 0, none⟩) n' c' ∧ RRow B g' n' c' (rgRun known os (zs.take j)) wr)) (fun _ i _ => n - (intOf i).toNat)
  case atStart => exact ⟨0, Nat.zero_le _, rfl, HS⟩
  case round =>
    obtain ⟨j, hj, rfl, hs⟩ := hrel
    obtain ⟨hbl, g', n', c', rfl, hrow⟩ := hs.out
    by_cases hlt : j < n
    · obtain ⟨zb, zo, rfl, hzb, d0, d1⟩ := HZ.out wr hbl j hlt
      obtain ⟨b, top, k, he, hb4, hgood, hk1, h1, h2, h24, h23, h26⟩ := HST.out j hlt
      have HT2 := Lib.hid (HTK.out j hlt b top he)
      rw [he] at hrow
      have hnn := rr_len hrow
      simp at hnn
      subst hnn
      have hBr : B ≤ wr.heap.size := Nat.le_trans hB hbl.size
      generalize hx : zs.getD j (0, 0) = x at *
      obtain ⟨x1, y⟩ := x
      dsimp only at hk1 d0 d1 h24 h26
      subst hk1
      have hA := (Below.refl wr.heap.size wr).alloc (Nat.le_refl _) (inO (k : Int) y)
      have HA := Lib.hid (hbl.trans (hA.mono hBr))
      have HR := Lib.hid (read_any B ka known.length kc known g' b.length c' b top k y (wr.alloc (inO (k : Int) y)) (Nat.le_trans hBr hA.size) hG (HT.out _ HA.out) (HK.out _ HA.out) rfl HKO.out (own_bl hrow hA) hgood h1 h2 h24 h23 h26 hb4)
      clear hA hrow hgood h1 h2 h24 h23 h26 he hs hbl hx
      go_wp2_with fail
      refine Calls.mono HR.out ?_
      rintro e w2 ⟨hb2, g2, n2, c2, rfl, hr2⟩
      have HB2 := Lib.hid (HA.out.trans hb2)
      have HR2 := Lib.hid hr2
      clear hb2 hr2 d0 d1
      go_wp2
      go_roundw
      case rel => exact ⟨j + 1, by omega, by go_num, Lib.hid ⟨HB2.out, g2, n2, c2, rfl, by rw [HT2.out]; exact HR2.out⟩⟩
      case measure => simp [intOf]; omega
    · obtain rfl : j = n := by omega
      have HB2 := Lib.hid hbl
      have HR2 := Lib.hid hrow
      clear hbl hrow hs
      go_wp2
      go_ret
      exact ⟨HB2.out, g', n', c', rfl, by rw [← HE.out]; exact HR2.out⟩
end Go.Proofs.YtnehaidkhpjpbaaDoor
