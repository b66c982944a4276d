/- Programs in the call's own memory: marked, and read back. -/
import Derived.Test.YtppgknjpbfopjaaGreatDoorPgm
namespace Go.Proofs.YtppgknjpbfopjaaGreatDoor
open Go.ChangeShapes Go.WideShapes Go.ChangeAt Go.RowKit
set_option linter.unusedVariables false
/-- Two rows in two blocks. -/
def Ap (a b : Option Addr) : Prop := ∀ x y, a = some x → b = some y → x.block ≠ y.block
theorem Ap.symm {a b : Option Addr} (h : Ap a b) : Ap b a := fun x y hx hy e => h y x hy hx e.symm
theorem Ap.own {a b : Option Addr} (h : Ap a b) (n c m d : Nat) : Value.ownBlock (.slice a n c) = none ∨ Value.ownBlock (.slice a n c) ≠ Value.ownBlock (.slice b m d) := by
  cases a with
  | none => exact .inl rfl
  | some x =>
    cases b with
    | none => exact .inr (by simp [Value.ownBlock])
    | some y => exact .inr (by have := h x y rfl rfl; simpa [Value.ownBlock] using this)
theorem ap_type {w : World} {B size n c B' size' n' c' : Nat} {e e' : TypeId} {a b : Option Addr} {xs ys : List Value} (h : w.ownsRow B e size (.slice a n c) n xs) (h' : w.ownsRow B' e' size' (.slice b n' c') n' ys) (ht : e ≠ e') : Ap a b := fun x y hx hy e0 => by
  obtain ⟨c1, f1, g1⟩ := Lib.ownsRow_kind h x.block (by rw [hx]; rfl)
  obtain ⟨c2, f2, g2⟩ := Lib.ownsRow_kind h' y.block (by rw [hy]; rfl)
  rw [e0, g2] at g1
  simp only [Option.some.injEq, Obj.cells.injEq] at g1
  exact ht g1.2.1.symm
def Lt (hi : Nat) (a : Option Addr) : Prop := ∀ x, a = some x → x.block < hi
theorem own_in {w : World} {B hi size n c : Nat} {e : TypeId} {a : Option Addr} {xs : List Value} (h : w.ownsRow B e size (.slice a n c) n xs) (g : Lt hi a) : ∀ p, Value.ownBlock (.slice a n c) = some p → B ≤ p ∧ p < hi := by
  intro p hp
  refine ⟨(h.lt p hp).1, ?_⟩
  cases a with
  | none => cases hp
  | some x =>
    simp only [Value.ownBlock, Option.some.injEq] at hp
    subst hp
    exact g x rfl
theorem markInstrS_own (B n c : Nat) (a : Option Addr) (xs : List Value) (m : Int) (hm : 0 ≤ m ∧ m ≤ 1000000000) (hn : n ≤ 1048576) (w : World) (ho : w.ownsRow B 170 2 (.slice a n c) n xs) :
    Calls Tryz.prog 92 #[.slice a n c, .int .i64 m] w fun e w' => e = .returned (.int .i64 (m + 2 * n)) ∧ w'.ownsRow B 170 2 (.slice a n c) n (flat insC (marks m n)) ∧ w.grownBy w' (Value.ownBlock (.slice a n c)) := by
  rcases own_form ho with ⟨hv, rfl⟩ | ⟨g, c', hv⟩
  · simp only [Value.slice.injEq] at hv
    obtain ⟨rfl, _, rfl⟩ := hv
    clear ho
    go_enter Tryz.func92, Tryz.ntmps92
    go_wp2
    go_loop [1, 5] (fun q i => q = .int .i64 m ∧ i = .int .i64 0) (fun _ i => 0)
    case atStart => exact ⟨rfl, rfl⟩
    case round =>
      obtain ⟨rfl, rfl⟩ := hrel
      go_wp2
      go_ret
      exact ⟨by simp, World.ownsRow_nil _ _ _ _, World.grownBy.refl _ _⟩
  · simp only [Value.slice.injEq] at hv
    obtain ⟨rfl, _, rfl⟩ := hv
    exact (markInstrS_any B g n c xs m hm hn w ho).mono fun _ _ h => h
/-- The instructions of the first k routines. -/
def sumP (ls : List (List (Int × Int))) (k : Nat) : Nat := ((ls.take k).map List.length).sum
theorem sumP_zero (ls : List (List (Int × Int))) : sumP ls 0 = 0 := by simp [sumP]
theorem sumP_step {ls : List (List (Int × Int))} {k : Nat} (h : k < ls.length) : sumP ls (k + 1) = sumP ls k + (ls.getD k []).length := by
  unfold sumP
  have e : ls.take (k + 1) = ls.take k ++ [ls[k]] := by rw [List.take_add_one, List.getElem?_eq_getElem h]; rfl
  rw [e, List.map_append, List.sum_append]
  simp [List.getD, h]
theorem sumP_mono {ls : List (List (Int × Int))} {k : Nat} : ∀ {m : Nat}, k ≤ m → m ≤ ls.length → sumP ls k ≤ sumP ls m
  | 0, h, _ => by obtain rfl : k = 0 := by omega
                  exact Nat.le_refl _
  | m + 1, h, hm => by
    by_cases e : k = m + 1
    · rw [e]; exact Nat.le_refl _
    · rw [sumP_step (by omega)]
      have := sumP_mono (ls := ls) (m := m) (by omega : k ≤ m) (by omega)
      omega
theorem sumP_each {ls : List (List (Int × Int))} {k : Nat} (h : k < ls.length) : (ls.getD k []).length ≤ sumP ls ls.length := by
  have h1 := sumP_step h
  have h2 := sumP_mono (ls := ls) (k := k + 1) (m := ls.length) (by omega) (Nat.le_refl _)
  omega
def mkR (m : Int) (ls : List (List (Int × Int))) (j : Nat) : List (Int × Int) := marks (m + 2 * (sumP ls j : Nat)) (ls.getD j []).length
def markR (m : Int) (ls : List (List (Int × Int))) : List (List (Int × Int)) := (List.range ls.length).map (mkR m ls)
theorem markR_len (m : Int) (ls : List (List (Int × Int))) : (markR m ls).length = ls.length := by simp [markR]
theorem markR_at (m : Int) (ls : List (List (Int × Int))) {j : Nat} (h : j < ls.length) : (markR m ls).getD j [] = mkR m ls j := by simp [markR, List.getD, h]
/-- The codes of routines, each in a block of the call's own. -/
structure RC (B hi : Nat) (ls : List (List (Int × Int))) (rs : List RTp) (w : World) (j : Nat) : Prop where
  len : (rs.getD j r0).2.1 = (ls.getD j []).length
  own : w.ownsRow B 170 2 (.slice (rs.getD j r0).1 (ls.getD j []).length (rs.getD j r0).2.2) (ls.getD j []).length (flat insC (ls.getD j []))
  lt : Lt hi (rs.getD j r0).1
structure PRG (B hi : Nat) (a : Option Addr) (c : Nat) (ls : List (List (Int × Int))) (w : World) : Prop where
  rows : ∃ rs : List RTp, rs.length = ls.length ∧ w.ownsRow B 108 1 (.slice a ls.length c) ls.length (flat rpC rs) ∧ Lt hi a ∧ (∀ j, j < ls.length → RC B hi ls rs w j) ∧ ∀ i j, i < j → j < ls.length → Ap (rs.getD i r0).1 (rs.getD j r0).1
theorem PRG.bel {B hi c : Nat} {a : Option Addr} {ls : List (List (Int × Int))} {w w' : World} (h : PRG B hi a c ls w) (hb : Below w.heap.size w w') : PRG B hi a c ls w' := by
  obtain ⟨rs, h1, h2, h3, h4, h5⟩ := h.rows
  exact ⟨rs, h1, own_bl h2 hb, h3, fun j hj => ⟨(h4 j hj).len, own_bl (h4 j hj).own hb, (h4 j hj).lt⟩, h5⟩
theorem PRG.lies {B hi c : Nat} {a : Option Addr} {ls : List (List (Int × Int))} {w : World} (h : PRG B hi a c ls w) : RL w a ls := by
  obtain ⟨rs, h1, h2, h3, h4, h5⟩ := h.rows
  exact ⟨rs, h1, lies_own h2, fun j hj => ⟨(h4 j hj).len, lies_own (h4 j hj).own⟩⟩
/-- While marking: the first k are marked. -/
def stepR (m : Int) (ls : List (List (Int × Int))) (k : Nat) (j : Nat) : List (Int × Int) := if j < k then mkR m ls j else ls.getD j []
def RStep (B : Nat) (m : Int) (ls : List (List (Int × Int))) (rs : List RTp) (k : Nat) (w : World) : Prop :=
  ∀ j, j < ls.length → w.ownsRow B 170 2 (.slice (rs.getD j r0).1 (ls.getD j []).length (rs.getD j r0).2.2) (ls.getD j []).length (flat insC (stepR m ls k j))
/-- A row elsewhere, in the same world. -/
theorem own_els {w w' : World} {B size n c B' size' n' c' : Nat} {e e' : TypeId} {a b : Option Addr} {xs ys : List Value} (h : w.ownsRow B e size (.slice a n c) n xs) (h' : w.ownsRow B' e' size' (.slice b n' c') n' ys) (ht : e ≠ e') (hg : w.grownBy w' (Value.ownBlock (.slice b n' c'))) : w'.ownsRow B e size (.slice a n c) n xs :=
  h.kept hg ((ap_type h h' ht).own _ _ _ _)
/-- Rows of other elements than instructions are as they were. -/
def RTouch (w w' : World) : Prop := ∀ (B size n c : Nat) (e : TypeId) (b : Option Addr) (xs : List Value), e ≠ 170 → w.ownsRow B e size (.slice b n c) n xs → w'.ownsRow B e size (.slice b n c) n xs
def MarkRPost (B hi c : Nat) (a : Option Addr) (ls : List (List (Int × Int))) (m : Int) (w : World) (e : Ending) (w' : World) : Prop :=
  e = .returned (.int .i64 (m + 2 * (sumP ls ls.length : Nat))) ∧ PRG B hi a c (markR m ls) w' ∧ Mid B hi w w' ∧ RTouch w w'
set_option maxHeartbeats 1000000 in
theorem markRts_own (B hi : Nat) (a : Option Addr) (c : Nat) (ls : List (List (Int × Int))) (m : Int) (hm : 0 ≤ m ∧ m ≤ 900000000) (hn : ls.length ≤ 1048576) (hs : sumP ls ls.length ≤ 1048576) (w : World) (ho : PRG B hi a c ls w) :
    Calls Tryz.prog 46 #[.slice a ls.length c, .int .i64 m] w (MarkRPost B hi c a ls m w) := by
  obtain ⟨rs, h1, h2, h3, h4, h5⟩ := ho.rows
  have HS := Lib.hid (fun k (h : k < ls.length) => sumP_step h)
  have HSM := Lib.hid (fun k (h : k ≤ ls.length) => Nat.le_trans (sumP_mono (ls := ls) h (Nat.le_refl _)) hs)
  have HS0 := Lib.hid (sumP_zero ls)
  have HE : Hid (∀ j, j < ls.length → (ls.getD j []).length ≤ 1048576) := Lib.hid (fun j hj => Nat.le_trans (sumP_each hj) hs)
  have HH := Lib.hid h2
  have HLN := Lib.hid (fun j hj => (h4 j hj).len)
  have HIN := Lib.hid (fun j (hj : j < ls.length) (w' : World) (xs : List Value) (o : w'.ownsRow B 170 2 (.slice (rs.getD j r0).1 (ls.getD j []).length (rs.getD j r0).2.2) (ls.getD j []).length xs) => own_in o (h4 j hj).lt)
  have HAP := Lib.hid h5
  have HST : Hid (RStep B m ls rs 0 w) := Lib.hid (fun j hj => by
    have e : stepR m ls 0 j = ls.getD j [] := by unfold stepR; rw [if_neg (by omega)]
    rw [e]
    exact (h4 j hj).own)
  have HN := Lib.hid h1
  have HP : Hid (∀ w', RTouch w w' → RStep B m ls rs ls.length w' → Mid B hi w w' → MarkRPost B hi c a ls m w (.returned (.int .i64 (m + 2 * (sumP ls ls.length : Nat)))) w') := Lib.hid (fun w' g1 g2 g3 => by
    refine ⟨rfl, ⟨rs, by rw [markR_len]; exact h1, by rw [markR_len]; exact g1 _ _ _ _ _ _ _ (by decide) h2, h3, fun j hj => ?_, fun i j hij hj => h5 i j hij (by rwa [markR_len] at hj)⟩, g3, g1⟩
    rw [markR_len] at hj
    have e : (markR m ls).getD j [] = mkR m ls j := markR_at m ls hj
    have e2 : stepR m ls ls.length j = mkR m ls j := by unfold stepR; rw [if_pos hj]
    have e3 : (mkR m ls j).length = (ls.getD j []).length := marks_len _ _
    have q := g2 j hj
    rw [e2] at q
    exact ⟨by rw [e, e3]; exact (h4 j hj).len, by rw [e, e3]; exact q, (h4 j hj).lt⟩)
  have HW2 : Hid (∀ k w' w2, k < ls.length → RStep B m ls rs k w' → w'.grownBy w2 (Value.ownBlock (.slice (rs.getD k r0).1 (ls.getD k []).length (rs.getD k r0).2.2)) → w2.ownsRow B 170 2 (.slice (rs.getD k r0).1 (ls.getD k []).length (rs.getD k r0).2.2) (ls.getD k []).length (flat insC (marks (m + 2 * (sumP ls k : Nat)) (ls.getD k []).length)) → RStep B m ls rs (k + 1) w2) := Lib.hid (fun k w' w2 hk g1 g2 g3 j hj => by
    by_cases e : j = k
    · subst e
      have e2 : stepR m ls (j + 1) j = mkR m ls j := by unfold stepR; rw [if_pos (by omega)]
      rw [e2]
      exact g3
    · have e2 : stepR m ls (k + 1) j = stepR m ls k j := by
        unfold stepR
        by_cases h : j < k
        · rw [if_pos h, if_pos (by omega)]
        · rw [if_neg h, if_neg (by omega)]
      rw [e2]
      refine (g1 j hj).kept g2 ?_
      by_cases h : j < k
      · exact (h5 j k h hk).own _ _ _ _
      · exact ((h5 k j (by omega) hj).symm).own _ _ _ _)
  clear ho h2 h3 h4 h5 hs h1
  generalize MarkRPost B hi c a ls m w = POST at *
  generalize hSS : sumP ls = S at *
  have HSS := Lib.hid hSS
  generalize hL : ls.length = n at *
  have HL := Lib.hid hL
  clear hL hSS
  go_enter Tryz.func46, Tryz.ntmps46
  go_wp2
  go_loopw [1, 5] (fun q i wr => ∃ j : Nat, j ≤ n ∧ i = .int .i64 j ∧ q = .int .i64 (m + 2 * (S j : Nat)) ∧ Hid (RTouch w wr) ∧ Hid (RStep B m ls rs j wr) ∧ Hid (Mid B hi w wr)) (fun _ i _ => n - (intOf i).toNat)
  case atStart => exact ⟨0, Nat.zero_le _, rfl, by rw [HS0.out]; go_num, Lib.hid (fun _ _ _ _ _ _ _ _ h => h), HST, Lib.hid (Mid.refl _ _ _)⟩
  case round =>
    obtain ⟨j, hj, rfl, rfl, hh, hw, hmd⟩ := hrel
    by_cases hlt : j < n
    · obtain ⟨b, o, rfl, hbl, hcs⟩ := (lies_own (hh.out _ _ _ _ _ _ _ (by decide) HH.out)).open (by rw [flat_len rpC_len, HN.out]; omega)
      have hx : rs[j]? = some (rs.getD j r0) := by simp [List.getD, HN.out, hlt]
      have hx0 := flat_at rpC_len hx (j := 0) (by omega)
      rw [Nat.mul_one, Nat.add_zero] at hx0
      have d0 := hcs j _ hx0
      have d1 : (rs.getD j r0).2.1 = (ls.getD j []).length := HLN.out j hlt
      rw [d1] at d0
      have ho := hw.out j (by rw [HL.out]; exact hlt)
      have HMI := Lib.hid (markInstrS_own B (ls.getD j []).length (rs.getD j r0).2.2 (rs.getD j r0).1 _ (m + 2 * (S j : Nat)) (by have := HSM.out j (by omega); omega) (HE.out j hlt) wr ho)
      have hIN := HIN.out j hlt wr _ ho
      have HHN : Hid (∀ wr2, wr.grownBy wr2 (Value.ownBlock (.slice (rs.getD j r0).1 (ls.getD j []).length (rs.getD j r0).2.2)) → RTouch w wr2) := Lib.hid (fun wr2 hgr B2 s2 n2 c2 e2 b2 x2 he hx => own_els (hh.out _ _ _ _ _ _ _ he hx) ho he hgr)
      have HMN : Hid (∀ wr2, wr.grownBy wr2 (Value.ownBlock (.slice (rs.getD j r0).1 (ls.getD j []).length (rs.getD j r0).2.2)) → Mid B hi w wr2) := Lib.hid (fun wr2 hgr => hmd.out.trans (Mid.of_grown hgr hIN))
      have HWN := Lib.hid (fun wr2 g1 g2 => HW2.out j wr wr2 hlt hw.out g1 g2)
      have HSj : Hid (S (j + 1) = S j + (ls.getD j []).length) := Lib.hid (HS.out j hlt)
      clear hx hx0 hcs ho hIN d1
      generalize rs.getD j r0 = rj at *
      generalize (ls.getD j []).length = q at *
      go_wp2_with fail
      refine Calls.mono HMI.out ?_
      rintro e w2 ⟨rfl, ho2, hgr⟩
      have H1 := Lib.hid (HHN.out w2 hgr)
      have H2 := Lib.hid (HWN.out w2 hgr ho2)
      have H3 := Lib.hid (HMN.out w2 hgr)
      clear hgr d0 ho2
      go_wp2
      go_roundw
      case rel => exact ⟨j + 1, by omega, by go_num, by rw [HSj.out]; congr 1; omega, H1, H2, H3⟩
      case measure => simp [intOf]; omega
    · obtain rfl : j = n := by omega
      go_wp2
      exact HP.out _ hh.out hw.out hmd.out
/-- A program in the call's own memory, its rows in blocks from B on and ahead of hi. -/
structure POwn (B hi : Nat) (h : PH) (D : Pgm) (w : World) : Prop where
  ks : w.ownsRow B 3 1 (.slice h.a0 D.n0 h.c0) D.n0 (kC D.ks)
  rs : PRG B hi h.a1 h.c1 D.rs w
  ts : w.ownsRow B 77 6 (.slice h.a2 D.n2 h.c2) D.n2 (flat tC D.ts)
  sa : w.ownsRow B 4 1 (.slice h.a3 D.n3 h.c3) D.n3 (flat bI D.sa)
  l0 : Lt hi h.a0
  l2 : Lt hi h.a2
  l3 : Lt hi h.a3
theorem POwn.bel {B hi : Nat} {h : PH} {D : Pgm} {w w' : World} (o : POwn B hi h D w) (hb : Below w.heap.size w w') : POwn B hi h D w' :=
  ⟨own_bl o.ks hb, o.rs.bel hb, own_bl o.ts hb, own_bl o.sa hb, o.l0, o.l2, o.l3⟩
theorem POwn.lies {B hi : Nat} {h : PH} {D : Pgm} {w : World} (o : POwn B hi h D w) : PLies w h D := ⟨lies_own o.ks, o.rs.lies, lies_own o.ts, lies_own o.sa⟩
/-- What mark leaves. -/
def mkP (m : Int) (D : Pgm) : Pgm :=
  ⟨marksI m D.n0, markR (m + D.n0) D.rs, marksT (m + D.n0 + 2 * (sumP D.rs D.rs.length : Nat)) D.n2, marksB (m + D.n0 + 2 * (sumP D.rs D.rs.length : Nat) + 6 * D.n2) D.n3⟩
theorem mkP_n (m : Int) (D : Pgm) : (mkP m D).n0 = D.n0 ∧ (mkP m D).n1 = D.n1 ∧ (mkP m D).n2 = D.n2 ∧ (mkP m D).n3 = D.n3 :=
  ⟨marksI_len _ _, markR_len _ _, marksT_len _ _, marksB_len _ _⟩
def Pgm.sum (D : Pgm) : Int := D.n0 + 2 * (sumP D.rs D.rs.length : Nat) + 6 * D.n2 + D.n3
theorem pV_mark (h : PH) (m : Int) (D : Pgm) : pV h (mkP m D) = pV h D := by
  obtain ⟨e0, e1, e2, e3⟩ := mkP_n m D
  unfold pV
  rw [e0, e1, e2, e3]
theorem rg_els {w w' : World} {B hi c B' size' n' c' : Nat} {e' : TypeId} {a b : Option Addr} {ls : List (List (Int × Int))} {ys : List Value} (h : PRG B hi a c ls w) (h' : w.ownsRow B' e' size' (.slice b n' c') n' ys) (ht : 108 ≠ e' ∧ 170 ≠ e') (hg : w.grownBy w' (Value.ownBlock (.slice b n' c'))) : PRG B hi a c ls w' := by
  obtain ⟨rs, h1, h2, h3, h4, h5⟩ := h.rows
  exact ⟨rs, h1, own_els h2 h' ht.1 hg, h3, fun j hj => ⟨(h4 j hj).len, own_els (h4 j hj).own h' ht.2 hg, (h4 j hj).lt⟩, h5⟩
def MarkPPost (B hi : Nat) (h : PH) (D : Pgm) (m : Int) (w : World) (e : Ending) (w' : World) : Prop :=
  e = .returned (.int .i64 (m + D.sum)) ∧ POwn B hi h (mkP m D) w' ∧ Mid B hi w w'
set_option maxHeartbeats 1000000 in
theorem markProgram_own (B hi : Nat) (h : PH) (D : Pgm) (m : Int) (hm : 0 ≤ m ∧ m ≤ 800000000) (hn : D.le 1048576) (hs : sumP D.rs D.rs.length ≤ 1048576) (w : World) (ho : POwn B hi h D w) (hhi : hi ≤ w.heap.size) :
    Calls Tryz.prog 13 #[pV h D, .int .i64 m] w (MarkPPost B hi h D m w) := by
  obtain ⟨b0, b1, b2, b3, _⟩ := hn
  have HA := Lib.hid (dbox w (pO h D 35))
  have HO := Lib.hid (ho.bel HA.out)
  have HLo := Lib.hid hhi
  have HK := Lib.hid (heap_alloc_new w (pO h D 35))
  have HS : Hid (m + D.n0 + 2 * (sumP D.rs D.rs.length : Nat) + 6 * D.n2 + D.n3 = m + D.sum) := Lib.hid (by unfold Pgm.sum; omega)
  have HM1 := Lib.hid (fun w (hm : 0 ≤ m + (D.n0 : Int) ∧ m + (D.n0 : Int) ≤ 900000000) o => markRts_own B hi h.a1 h.c1 D.rs (m + D.n0) hm b1 hs w o)
  have HP : Hid (∀ w', POwn B hi h (mkP m D) w' → Mid B hi w w' → MarkPPost B hi h D m w (.returned (.int .i64 (m + D.sum))) w') := Lib.hid (fun w' h1 h2 => ⟨rfl, h1, h2⟩)
  have HS1 : Hid (sumP D.rs D.rs.length ≤ 1048576) := Lib.hid hs
  clear ho hhi
  generalize MarkPPost B hi h D m w = POST at *
  go_enter Tryz.func13, Tryz.ntmps13
  go_wp2_with fail
  refine Calls.mono (markIntS_own B D.n0 h.c0 h.a0 _ m (by omega) b0 _ HO.out.ks) ?_
  rintro e w1 ⟨rfl, ho, hg⟩
  have G := Mid.of_grown (lo := B) (hi := hi) hg (own_in HO.out.ks HO.out.l0)
  have R0 := Lib.hid ho
  have R1 := Lib.hid (rg_els HO.out.rs HO.out.ks (by decide) hg)
  have R2 := Lib.hid (own_els HO.out.ts HO.out.ks (by decide) hg)
  have R3 := Lib.hid (own_els HO.out.sa HO.out.ks (by decide) hg)
  have M0 := Lib.hid ((Mid.of_bel (lo := B) (hi := hi) HA.out).trans G)
  have K0 := Lib.hid (G.at HK.out (.inr HLo.out))
  clear ho hg G
  have q0 := cell_of_row w1 w.heap.size 1 _ _ _ K0.out
  go_wp2_with fail
  refine Calls.mono (HM1.out _ (by omega) R1.out) ?_
  rintro e w2 ⟨rfl, ho, hmid, htc⟩
  have R0 := Lib.hid (htc _ _ _ _ _ _ _ (by decide) R0.out)
  have R1 := Lib.hid ho
  have R2 := Lib.hid (htc _ _ _ _ _ _ _ (by decide) R2.out)
  have R3 := Lib.hid (htc _ _ _ _ _ _ _ (by decide) R3.out)
  have M0 := Lib.hid (M0.out.trans hmid)
  have K0 := Lib.hid (hmid.at K0.out (.inr HLo.out))
  clear ho hmid htc q0
  have q0 := cell_of_row w2 w.heap.size 2 _ _ _ K0.out
  go_wp2_with fail
  refine Calls.mono (markTaskS_own B D.n2 h.c2 h.a2 _ (m + D.n0 + 2 * (sumP D.rs D.rs.length : Nat)) (by have := HS1.out; omega) b2 _ R2.out) ?_
  rintro e w3 ⟨rfl, ho, hg⟩
  have G := Mid.of_grown (lo := B) (hi := hi) hg (own_in R2.out HO.out.l2)
  have R0 := Lib.hid (own_els R0.out R2.out (by decide) hg)
  have R1 := Lib.hid (rg_els R1.out R2.out (by decide) hg)
  have R3 := Lib.hid (own_els R3.out R2.out (by decide) hg)
  have R2 := Lib.hid ho
  have M0 := Lib.hid (M0.out.trans G)
  have K0 := Lib.hid (G.at K0.out (.inr HLo.out))
  clear ho hg G q0
  have q0 := cell_of_row w3 w.heap.size 3 _ _ _ K0.out
  go_wp2_with fail
  refine Calls.mono (markBoolS_own B D.n3 h.c3 h.a3 _ (m + D.n0 + 2 * (sumP D.rs D.rs.length : Nat) + 6 * D.n2) (by have := HS1.out; omega) b3 _ R3.out) ?_
  rintro e w4 ⟨rfl, ho, hg⟩
  have G := Mid.of_grown (lo := B) (hi := hi) hg (own_in R3.out HO.out.l3)
  have R0 := Lib.hid (own_els R0.out R3.out (by decide) hg)
  have R1 := Lib.hid (rg_els R1.out R3.out (by decide) hg)
  have R2 := Lib.hid (own_els R2.out R3.out (by decide) hg)
  have R3 := Lib.hid ho
  have M0 := Lib.hid (M0.out.trans G)
  clear ho hg G q0 K0
  go_wp2
  rw [HS.out]
  obtain ⟨e0, e1, e2, e3⟩ := mkP_n m D
  exact HP.out _ ⟨by rw [e0]; exact R0.out, R1.out, by rw [e2]; exact R2.out, by rw [e3]; exact R3.out, HO.out.l0, HO.out.l2, HO.out.l3⟩ M0.out
end Go.Proofs.YtppgknjpbfopjaaGreatDoor
