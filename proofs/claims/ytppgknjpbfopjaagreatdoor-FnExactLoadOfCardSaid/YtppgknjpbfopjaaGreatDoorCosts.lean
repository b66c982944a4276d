/- CostsOf of impl. -/
import Derived.Test.YtppgknjpbfopjaaGreatDoorNext
import Derived.Test.YtppgknjpbfopjaaGreatDoorAll4
namespace Go.Proofs.YtppgknjpbfopjaaGreatDoor
open Go.ChangeShapes Go.WideShapes Go.ChangeAt Go.RowKit
set_option linter.unusedVariables false
theorem costsGo_snoc : ∀ (l : List (List Ins)) (z : List Ins) (k : List SM), costsGo (l ++ [z]) k = costsGo l k ++ [codeCost (costsGo l k) z]
  | [], z, k => rfl
  | a :: l, z, k => by rw [List.cons_append, costsGo, costsGo, costsGo_snoc l z]
theorem costsL_take {ls : List (List Ins)} {j : Nat} (hj : j < ls.length) : costsL (ls.take (j + 1)) = costsL (ls.take j) ++ [codeCost (costsL (ls.take j)) (ls.getD j [])] := by
  have e : ls.take (j + 1) = ls.take j ++ [ls.getD j []] := by
    rw [List.take_succ_eq_append_getElem hj]
    simp [List.getD, hj]
  unfold costsL
  rw [e, costsGo_snoc]
theorem costsGo_len : ∀ (l : List (List Ins)) (k : List SM), (costsGo l k).length = k.length + l.length
  | [], k => by simp [costsGo]
  | a :: l, k => by rw [costsGo, costsGo_len l]; simp; omega
theorem costsL_len (l : List (List Ins)) : (costsL l).length = l.length := by unfold costsL; rw [costsGo_len]; simp
theorem allGo_ok {ks : List Int} : ∀ (ls : List (List Ins)) (i : Nat), (allGo ks ls i).2.2 = 0 → ∀ j, j < ls.length → (vVer (ls.getD j []) ks ((i + j : Nat) : Int)).2 = 0
  | [], i, _, j, hj => by simp at hj
  | z :: t, i, h, j, hj => by
    rw [allGo] at h
    by_cases hv : (vVer z ks i).2 = 0
    · rw [if_neg (fun q => q hv)] at h
      cases j with
      | zero => simpa using hv
      | succ j =>
        have := allGo_ok t (i + 1) h j (by simpa using hj)
        simpa [Nat.add_assoc, Nat.add_comm 1 j] using this
    · rw [if_pos hv] at h
      exact absurd h hv
/-- What the verifier's word says of each routine. -/
theorem all_ok {ls : List (List Ins)} {ks : List Int} (h : (allF ls ks).2.2 = 0) : ls.length ≤ 6 ∧ (∀ j, j < ls.length → (ls.getD j []).length ≤ 40 ∧ okAll (ls.getD j []) = true) ∧ ∀ j, j < ls.length → (vVer (ls.getD j []) ks (j : Int)).2 = 0 := by
  unfold allF at h
  split at h
  · exact absurd h (by decide)
  split at h
  · exact absurd h (by decide)
  · rename_i _ hw
    rw [Bool.not_eq_false, Bool.and_eq_true] at hw
    obtain ⟨h6, hwa⟩ := wellR_all hw.2
    refine ⟨h6, fun j hj => wellB_ok (hwa j hj), fun j hj => ?_⟩
    have := allGo_ok ls 0 h j hj
    simpa using this
/-- Every bound so far is one. -/
theorem costs_ok {ls : List (List Ins)} {ks : List Int} (h : (allF ls ks).2.2 = 0) : ∀ j, j ≤ ls.length → ∀ a ∈ costsL (ls.take j), a.ok
  | 0, _ => by simp [costsL, costsGo]
  | j + 1, hj => by
    obtain ⟨h6, hw, hv⟩ := all_ok h
    have ih := costs_ok h j (by omega)
    rw [costsL_take (by omega)]
    intro a ha
    rcases List.mem_append.1 ha with ha | ha
    · exact ih a ha
    · rw [List.mem_singleton.1 ha]
      have hl : (costsL (ls.take j)).length = j := by rw [costsL_len, List.length_take]; omega
      exact codeCost_ok ih (hw j (by omega)).2 (by rw [hl]; exact hv j (by omega))
set_option maxRecDepth 100000 in
set_option maxHeartbeats 2000000 in
theorem foldS_any (a : Option Addr) (c : Nat) (ls : List (List Ins)) (ks : List Int) (sa : Option Addr) (sc : Nat) (w0 w : World) (hok : (allF ls ks).2.2 = 0) (hz : Routs w0 a ls) (ht : OpTab w0) (hb : Below w0.heap.size w0 w) (hs : SRow w0.heap.size 0 (.slice sa 0 sc) [] w) :
    Calls Tryz.prog 151 #[.slice a ls.length c, .slice sa 0 sc, .func (.func 152) #[] #[]] w (NextPost w0.heap.size (costsL ls) w) := by
  obtain ⟨h6, hw, hv⟩ := all_ok hok
  have HS : Hid (Below w0.heap.size w w ∧ ∃ a' n' c', Value.slice sa 0 sc = .slice a' n' c' ∧ SRow w0.heap.size n' (.slice a' n' c') (costsL (ls.take 0)) w) := Lib.hid ⟨Below.refl _ _, sa, 0, sc, rfl, hs⟩
  have HZ : Hid (∀ wr, Below w0.heap.size w wr → ∀ j, j < ls.length → ∃ b o x c, a = some ⟨b, o, none⟩ ∧ b < wr.heap.size ∧ wr.cell? ⟨b, o + j, none⟩ = some (.slice x (ls.getD j []).length c) ∧ Lies wr x (flat insC (ls.getD j []))) := Lib.hid (fun wr h j hj => (hz.below (hb.trans h)).at hj)
  have HT : Hid (∀ wr, Below w0.heap.size w wr → OpTab wr) := Lib.hid (fun wr h => ht.below (hb.trans h) (Nat.le_refl _))
  have HW := Lib.hid hw
  have HV : Hid (∀ j, j < ls.length → (vVer (ls.getD j []) ks ((costsL (ls.take j)).length : Int)).2 = 0) := Lib.hid (fun j hj => by
    rw [costsL_len, List.length_take, Nat.min_eq_left (by omega)]; exact hv j hj)
  have HO := Lib.hid (costs_ok hok)
  have HTK : Hid (∀ j, j < ls.length → costsL (ls.take (j + 1)) = costsL (ls.take j) ++ [codeCost (costsL (ls.take j)) (ls.getD j [])]) := Lib.hid (fun j hj => costsL_take hj)
  have HLN : Hid (∀ j, j ≤ ls.length → (costsL (ls.take j)).length = j) := Lib.hid (fun j hj => by rw [costsL_len, List.length_take, Nat.min_eq_left hj])
  have HE : Hid (costsL (ls.take ls.length) = costsL ls) := Lib.hid (by rw [List.take_length])
  have hB := hb.size
  clear hok hz ht hs hw hv
  generalize hL : ls.length = n at *
  have HL := Lib.hid hL
  clear hL
  go_enter Tryz.func151, Tryz.ntmps151
  go_wp2
  go_loopw [1, 11] (fun s i wr => ∃ j : Nat, j ≤ n ∧ i = .int .i64 j ∧ Hid (Below w0.heap.size w wr ∧ ∃ a' n' c', s = .slice a' n' c' ∧ SRow w0.heap.size n' (.slice a' n' c') (costsL (ls.take j)) wr)) (fun _ i _ => n - (intOf i).toNat)
  case atStart => exact ⟨0, Nat.zero_le _, rfl, HS⟩
  case round =>
    obtain ⟨j, hj, rfl, hs⟩ := hrel
    obtain ⟨hbl, a', n', c', rfl, hrow⟩ := hs.out
    by_cases hlt : j < n
    · obtain ⟨zb, zo, zx, zc, rfl, hzb, d0, hzl⟩ := HZ.out wr hbl j hlt
      have hnn : j = n' := by rw [← HLN.out j hj]; exact sr_len hrow
      subst hnn
      have hwj := HW.out j hlt
      have HT2 := Lib.hid (HTK.out j hlt)
      have hBr : w0.heap.size ≤ wr.heap.size := Nat.le_trans hB hbl.size
      have hA := sm_al wr (roO zx (ls.getD j []).length zc)
      have HA := Lib.hid (hbl.trans (hA.mono hBr))
      have HR := Lib.hid (next_any w0.heap.size a' j c' (costsL (ls.take j)) zx zc (ls.getD j []) ks (wr.alloc (roO zx (ls.getD j []).length zc)) (Nat.le_trans hBr hA.size) (HT.out _ HA.out) (own_bl hrow hA) (HO.out j (by omega)) (by omega) (hzl.below hA (Nat.le_refl _)) hwj.1 hwj.2 (HV.out j hlt))
      rw [← HT2.out] at HR
      clear hA hrow hzl hwj hs hbl
      generalize (ls.getD j []).length = q at *
      go_wp2_with fail
      refine Calls.mono HR.out ?_
      rintro e w2 ⟨hb2, a2, n2, c2, rfl, hr2⟩
      have HB2 := Lib.hid (HA.out.trans hb2)
      have HR2 := Lib.hid hr2
      clear hb2 hr2 d0
      go_wp2
      go_roundw
      case rel => exact ⟨j + 1, by omega, by go_num, Lib.hid ⟨HB2.out, a2, n2, c2, rfl, HR2.out⟩⟩
      case measure => simp [intOf]; omega
    · obtain rfl : j = n := by omega
      have HB2 := Lib.hid hbl
      have HR2 := Lib.hid hrow
      clear hbl hrow hs
      go_wp2
      go_ret
      exact ⟨HB2.out, a', n', c', rfl, by rw [← HE.out]; exact HR2.out⟩
def Cost0Post (ls : List (List Ins)) (w : World) (e : Ending) (w' : World) : Prop := Below w.heap.size w w' ∧ ∃ a n c, e = .returned (.slice a n c) ∧ SRow w.heap.size n (.slice a n c) (costsL ls) w'
theorem costs0_any (a : Option Addr) (c : Nat) (ls : List (List Ins)) (ks : List Int) (h0 : (allF ls ks).2.2 = 0) (w : World) (ht : OpTab w) (hz : Routs w a ls) :
    Calls Tryz.prog 96 #[.slice a ls.length c] w (Cost0Post ls w) := by
  have HF := Lib.hid (foldS_any a c ls ks (some ⟨w.heap.size, 0, none⟩) 0 w (w.alloc (.cells #[] 81)) h0 hz ht (sm_al _ _) (World.ownsRow_lit (base := w.heap.size) (e := 81) (size := 5) w #[] 0 (Nat.le_refl _) (Nat.zero_le _) rfl))
  have HP : Hid (∀ e w', (Below w.heap.size w w' ∧ ∃ a n c, e = .returned (.slice a n c) ∧ SRow w.heap.size n (.slice a n c) (costsL ls) w') → Cost0Post ls w e w') := Lib.hid (fun e w' h => h)
  clear ht hz h0
  generalize Cost0Post ls w = POST at *
  generalize ls.length = n at *
  go_enter Tryz.func96, Tryz.ntmps96
  go_wp2_with fail
  refine Calls.mono HF.out ?_
  rintro e w2 ⟨hb2, a2, n2, c2, rfl, hr2⟩
  have HB2 := Lib.hid ((sm_al w (.cells #[] 81)).trans hb2)
  have HR2 := Lib.hid hr2
  clear hb2 hr2
  go_wp2
  exact HP.out _ _ ⟨HB2.out, a2, n2, c2, rfl, HR2.out⟩
def costR (ls : List (List Ins)) (ks : List Int) : List SM := if (allF ls ks).2.2 = 0 then costsL ls else []
def CostPost (ls : List (List Ins)) (ks : List Int) (w : World) (e : Ending) (w' : World) : Prop := Below w.heap.size w w' ∧ ∃ a n c, e = .returned (.tuple #[.slice a n c, .int .i64 (allF ls ks).2.2]) ∧ SRow w.heap.size n (.slice a n c) (costR ls ks) w'
end Go.Proofs.YtppgknjpbfopjaaGreatDoor
