/- VerifyAll of impl and of spec. -/
import Derived.Test.YtbbhoaljldgjeaaDoorVLaw
namespace Go.Proofs.YtbbhoaljldgjeaaDoor
open Go.ChangeShapes Go.WideShapes Go.ChangeAt Go.RowKit
set_option linter.unusedVariables false
/-- A list of routines: each is a slice; its instructions lie behind it. -/
abbrev RT := Option Addr × Nat × Nat
def rtC (z : RT) : List Value := [.slice z.1 z.2.1 z.2.2]
theorem rtC_len (z : RT) : (rtC z).length = 1 := rfl
/-- Routines lie: their slices behind the address, the code of each behind its own. -/
structure Routs (w : World) (a : Option Addr) (ls : List (List Ins)) : Prop where
  rows : ∃ rs : List RT, rs.length = ls.length ∧ Lies w a (flat rtC rs) ∧ ∀ j, j < ls.length → (rs.getD j (none, 0, 0)).2.1 = (ls.getD j []).length ∧ Lies w (rs.getD j (none, 0, 0)).1 (flat insC (ls.getD j []))
theorem Routs.below {w w' : World} {a : Option Addr} {ls : List (List Ins)} (h : Routs w a ls) (hb : Below w.heap.size w w') : Routs w' a ls := by
  obtain ⟨rs, h1, h2, h3⟩ := h.rows
  exact ⟨rs, h1, h2.below hb (Nat.le_refl _), fun j hj => ⟨(h3 j hj).1, (h3 j hj).2.below hb (Nat.le_refl _)⟩⟩
/-- One routine's slice. -/
theorem Routs.at {w : World} {a : Option Addr} {ls : List (List Ins)} (h : Routs w a ls) {j : Nat} (hj : j < ls.length) : ∃ b o x c, a = some ⟨b, o, none⟩ ∧ b < w.heap.size ∧ w.cell? ⟨b, o + j, none⟩ = some (.slice x (ls.getD j []).length c) ∧ Lies w x (flat insC (ls.getD j [])) := by
  obtain ⟨rs, h1, h2, h3⟩ := h.rows
  obtain ⟨b, o, rfl, hb, hc⟩ := h2.open (by rw [flat_len rtC_len]; omega)
  have hx : rs[j]? = some (rs.getD j (none, 0, 0)) := by simp [List.getD, h1, hj]
  have h0 := flat_at rtC_len hx (j := 0) (by omega)
  rw [Nat.mul_one, Nat.add_zero] at h0
  have hcell := hc j _ h0
  refine ⟨b, o, (rs.getD j (none, 0, 0)).1, (rs.getD j (none, 0, 0)).2.2, rfl, hb, ?_, (h3 j hj).2⟩
  rw [hcell, ← (h3 j hj).1]
def wellR (ls : List (List Ins)) : Bool := decide (ls.length ≤ 6) && ls.all wellB
theorem wellR_long {ls : List (List Ins)} (h : 6 < ls.length) : wellR ls = false := by unfold wellR; rw [decide_eq_false (by omega)]; rfl
theorem wellR_no {ls : List (List Ins)} {j : Nat} (h : j < ls.length) (g : wellB (ls.getD j []) = false) : wellR ls = false := by
  unfold wellR
  have : ls.all wellB = false := by
    rw [List.all_eq_false]
    exact ⟨ls.getD j [], by simp [List.getD, h], by rw [g]; simp⟩
  rw [this]
  simp
theorem wellR_yes {ls : List (List Ins)} (h : ls.length ≤ 6) (g : ∀ j, j < ls.length → wellB (ls.getD j []) = true) : wellR ls = true := by
  unfold wellR
  rw [decide_eq_true h, Bool.true_and, List.all_eq_true]
  intro z hz
  obtain ⟨j, hj, rfl⟩ := List.getElem_of_mem hz
  have := g j hj
  simpa [List.getD, hj] using this
theorem wellR_all {ls : List (List Ins)} (h : wellR ls = true) : ls.length ≤ 6 ∧ ∀ j, j < ls.length → wellB (ls.getD j []) = true := by
  unfold wellR at h
  simp only [Bool.and_eq_true, decide_eq_true_iff, List.all_eq_true] at h
  exact ⟨h.1, fun j hj => h.2 _ (by simp [List.getD, hj])⟩
theorem routinesOK_any (a : Option Addr) (c : Nat) (ls : List (List Ins)) (hm : ls.length ≤ maxLen) (hl : ∀ j, j < ls.length → (ls.getD j []).length ≤ maxLen) (w : World) (ht : OpTab w) (hz : Routs w a ls) :
    Calls Tryd.prog 62 #[.slice a ls.length c] w fun e w' => e = .returned (.bool (wellR ls)) ∧ Below w.heap.size w w' := by
  unfold maxLen at hm
  by_cases h6 : 6 < ls.length
  · have HR := Lib.hid (wellR_long h6)
    generalize wellR ls = R at *
    generalize ls.length = n at *
    go_enter Tryd.func62, Tryd.ntmps62
    go_wp2
    go_ret
    exact ⟨by rw [HR.out]; rfl, Below.refl _ _⟩
  have HZ := Lib.hid hz
  have HT := Lib.hid ht
  have HM := Lib.hid hl
  have HN := Lib.hid (fun j (h : j < ls.length) g => wellR_no (j := j) h g)
  have HY := Lib.hid (fun g => wellR_yes (ls := ls) (by omega) g)
  have HA := Lib.hid (fun w (h : Routs w a ls) j (hj : j < ls.length) => h.at hj)
  clear hz ht hl
  generalize wellR ls = R at *
  generalize hL : ls.length = n at *
  have HL := Lib.hid hL
  clear hL
  go_enter Tryd.func62, Tryd.ntmps62
  go_wp2
  go_loopw [10] (fun i wr => ∃ j : Nat, j ≤ n ∧ i = .int .i64 j ∧ Hid (∀ q, q < j → wellB (ls.getD q []) = true) ∧ Hid (Below w.heap.size w wr)) (fun i _ => n - (intOf i).toNat)
  case atStart => exact ⟨0, Nat.zero_le _, rfl, Lib.hid (by intro q hq; omega), Lib.hid (Below.refl _ _)⟩
  case round =>
    obtain ⟨j, hj, rfl, hr, hb⟩ := hrel
    by_cases hlt : j < n
    · obtain ⟨b, o, x, c2, rfl, hbl, hcell, hlies⟩ := HA.out w HZ.out j hlt
      have hb' := hb.out
      have d0 := (hb'.cell (p := ⟨b, o + j, none⟩) hbl).trans hcell
      have HM2 := Lib.hid (HM.out j hlt)
      have HLI := Lib.hid (fun w2 (h : Below w.heap.size w w2) => hlies.below h (Nat.le_refl _))
      have HW := Lib.hid (fun w2 ht hz => wellFormed_any (ls.getD j []) x c2 (HM.out j hlt) w2 ht hz)
      have HNj := Lib.hid (HN.out j hlt)
      have HX : Hid (wellB (ls.getD j []) = true → ∀ q, q < j + 1 → wellB (ls.getD q []) = true) := Lib.hid (fun g q hq => by
          by_cases e : q = j
          · rw [e]; exact g
          · exact hr.out q (by omega))
      clear hcell hlies hb'
      generalize ls.getD j [] = zs at *
      have Ha := Lib.hid (hb.out.alloc hb.out.size (.cells #[.slice x zs.length c2] 93))
      cases hk : wellB zs
      · have HR := Lib.hid (HNj.out hk)
        rw [hk] at HW
        clear hk HNj HX
        generalize zs.length = m at *
        go_wp2_with fail
        refine Calls.mono (HW.out _ (HT.out.below Ha.out (Nat.le_refl _)) (HLI.out _ Ha.out)) ?_
        rintro e w2 ⟨rfl, hb2⟩
        have Hb2 := Lib.hid (Ha.out.trans (hb2.mono Ha.out.size))
        clear hb2
        go_wp2
        go_ret
        exact ⟨by rw [HR.out]; rfl, Hb2.out⟩
      · have HX2 := Lib.hid (HX.out hk)
        rw [hk] at HW
        clear hk HNj HX
        generalize zs.length = m at *
        go_wp2_with fail
        refine Calls.mono (HW.out _ (HT.out.below Ha.out (Nat.le_refl _)) (HLI.out _ Ha.out)) ?_
        rintro e w2 ⟨rfl, hb2⟩
        have Hb2 := Lib.hid (Ha.out.trans (hb2.mono Ha.out.size))
        clear hb2 d0
        go_wp2
        go_roundw
        case rel => exact ⟨j + 1, by omega, by go_num, HX2, Hb2⟩
        case measure => simp [intOf]; omega
    · obtain rfl : j = n := by omega
      have HR := Lib.hid (HY.out hr.out)
      go_wp2
      go_ret
      exact ⟨by rw [HR.out]; rfl, hb.out⟩
end Go.Proofs.YtbbhoaljldgjeaaDoor
