/- CodeText of impl and of spec. -/
import Derived.Test.YtppgknjpbfopjaaGreatDoorInsRow
import Derived.Test.YtppgknjpbfopjaaGreatDoorPut
import Derived.Test.YtppgknjpbfopjaaGreatDoorDig
import Derived.Lib.AppendStr
namespace Go.Proofs.YtppgknjpbfopjaaGreatDoor
open Go.ChangeShapes Go.WideShapes Go.ChangeAt Go.RowKit
/-- An instruction's bytes. -/
def insB (z : Int × Int) : List UInt8 := putTo z.1 1 ++ if opHas z.1.toNat = true then putTo z.2 4 else []
def codeL (zs : List (Int × Int)) : List UInt8 := zs.flatMap insB
theorem insB_len (z : Int × Int) : (insB z).length ≤ 5 := by
  unfold insB
  rw [List.length_append, putTo_len]
  split
  · rw [putTo_len]
    omega
  · simp
theorem codeL_len (zs : List (Int × Int)) : (codeL zs).length ≤ 5 * zs.length := by
  induction zs with
  | nil => simp [codeL]
  | cons z t ih =>
    have := insB_len z
    have e : codeL (z :: t) = insB z ++ codeL t := by simp [codeL]
    rw [e, List.length_append, List.length_cons]
    omega
theorem codeL_snoc (zs : List (Int × Int)) (z : Int × Int) : codeL (zs ++ [z]) = codeL zs ++ insB z := by simp [codeL]
theorem codeL_take (zs : List (Int × Int)) {k : Nat} (hk : k < zs.length) : codeL (zs.take (k + 1)) = codeL (zs.take k) ++ insB (zs.getD k (0, 0)) := by
  rw [List.take_add_one, List.getElem?_eq_getElem hk, Option.toList_some, codeL_snoc]
  simp [List.getD, hk]
def okAll (zs : List (Int × Int)) : Bool := zs.all fun z => okB z.1 z.2
theorem okAll_yes {zs : List (Int × Int)} (h : ∀ k, k < zs.length → okB (zs.getD k (0, 0)).1 (zs.getD k (0, 0)).2 = true) : okAll zs = true := by
  unfold okAll
  rw [List.all_eq_true]
  intro z hz
  obtain ⟨i, hi, rfl⟩ := List.getElem_of_mem hz
  have := h i hi
  simpa [List.getD, hi] using this
theorem okAll_no {zs : List (Int × Int)} {k : Nat} (hk : k < zs.length) (h : okB (zs.getD k (0, 0)).1 (zs.getD k (0, 0)).2 = false) : okAll zs = false := by
  cases e : okAll zs
  · rfl
  · unfold okAll at e
    rw [List.all_eq_true] at e
    have := e zs[k] (List.getElem_mem hk)
    simp [List.getD, hk] at h
    rw [h] at this
    cases this
def codeT (zs : List (Int × Int)) : List UInt8 := if 40 < zs.length ∨ okAll zs = false then [] else codeL zs
def codeCd (zs : List (Int × Int)) : Int := if 4096 < zs.length then 2 else if 40 < zs.length then 6 else if okAll zs = false then 1 else 0
theorem code_long {zs : List (Int × Int)} (h : 4096 < zs.length) : codeT zs = [] ∧ codeCd zs = 2 := ⟨if_pos (.inl (by omega)), if_pos h⟩
theorem code_many {zs : List (Int × Int)} (h : ¬ 4096 < zs.length) (g : 40 < zs.length) : codeT zs = [] ∧ codeCd zs = 6 := ⟨if_pos (.inl g), by unfold codeCd; rw [if_neg h, if_pos g]⟩
theorem code_bad {zs : List (Int × Int)} (g : ¬ 40 < zs.length) (h : okAll zs = false) : codeT zs = [] ∧ codeCd zs = 1 := ⟨if_pos (.inr h), by unfold codeCd; rw [if_neg (by omega), if_neg g, if_pos h]⟩
theorem code_ok {zs : List (Int × Int)} (g : ¬ 40 < zs.length) (h : okAll zs = true) : codeT zs = codeL zs ∧ codeCd zs = 0 := ⟨if_neg (by rintro (a | a); exact g a; rw [h] at a; cases a), by unfold codeCd; rw [if_neg (by omega), if_neg g, if_neg (by rw [h]; simp)]⟩
theorem l02All_any (zs : List (Int × Int)) (a : Option Addr) (c : Nat) (hn : zs.length ≤ 1048576) (w : World) (hz : Lies w a (flat insC zs)) :
    Calls Tryz.prog 164 #[.slice a zs.length c] w fun e w' => e = .returned (.bool (okAll zs)) ∧ Below w.heap.size w w' := by
  have Hz := Lib.hid hz
  clear hz
  generalize hL : zs.length = n at *
  have HL := Lib.hid hL
  clear hL
  go_enter Tryz.func164, Tryz.ntmps164
  go_wp2
  go_loopw [3] (fun i wr => ∃ k : Nat, k ≤ n ∧ i = .int .i64 k ∧ Hid (∀ j, j < k → okB (zs.getD j (0, 0)).1 (zs.getD j (0, 0)).2 = true) ∧ Hid (Below w.heap.size w wr)) (fun i _ => n - (intOf i).toNat)
  case atStart => exact ⟨0, Nat.zero_le _, rfl, Lib.hid (by intro j hj; omega), Lib.hid (Below.refl _ _)⟩
  case round =>
    obtain ⟨k, hk, rfl, hr, hb⟩ := hrel
    by_cases hlt : k < n
    · obtain ⟨b1, o1, rfl, hb1, hc1⟩ := Hz.out.open (by rw [flat_len insC_len, HL.out]; omega)
      obtain ⟨c0, c1⟩ := ins_at hc1 (i := k) (by rw [HL.out]; exact hlt)
      have d0 := (hb.out.cell (p := ⟨b1, o1 + k * 2, none⟩) hb1).trans c0
      have d1 := (hb.out.cell (p := ⟨b1, o1 + k * 2 + 1, none⟩) hb1).trans c1
      clear hc1 c0 c1
      cases he : okB (zs.getD k (0, 0)).1 (zs.getD k (0, 0)).2
      · have H := Lib.hid (okAll_no (zs := zs) (k := k) (by rw [HL.out]; exact hlt) he)
        have HK := Lib.hid (fun w => he ▸ l02OK_any (zs.getD k (0, 0)).1 (zs.getD k (0, 0)).2 w)
        clear he
        generalize (zs.getD k (0, 0)).1 = x at *
        generalize (zs.getD k (0, 0)).2 = y at *
        go_wp2_with (go_at_call 199; refine (HK.out _).mono ?_; rintro e w2 ⟨rfl, hb2⟩; have Hb2 := Lib.hid (hb.out.trans (hb2.mono hb.out.size)); clear hb2)
        go_ret
        exact ⟨ret_b1 (by rw [H.out]), Hb2.out⟩
      · have hx : Hid (∀ j, j < k + 1 → okB (zs.getD j (0, 0)).1 (zs.getD j (0, 0)).2 = true) := Lib.hid (fun j hj => by
          by_cases e : j = k
          · rw [e]; exact he
          · exact hr.out j (by omega))
        have HK := Lib.hid (fun w => he ▸ l02OK_any (zs.getD k (0, 0)).1 (zs.getD k (0, 0)).2 w)
        clear he
        generalize hX : (zs.getD k (0, 0)).1 = x at *
        have HX := Lib.hid hX
        clear hX
        generalize hY : (zs.getD k (0, 0)).2 = y at *
        have HY := Lib.hid hY
        clear hY
        go_wp2_with (go_at_call 199; refine (HK.out _).mono ?_; rintro e w2 ⟨rfl, hb2⟩; have Hb2 := Lib.hid (hb.out.trans (hb2.mono hb.out.size)); clear hb2)
        go_roundw
        case rel => exact ⟨k + 1, by omega, by go_num, hx, Hb2⟩
        case measure => simp [intOf]; omega
    · obtain rfl : k = n := by omega
      have H := Lib.hid (okAll_yes (zs := zs) (fun j hj => hr.out j (by rw [← HL.out]; exact hj)))
      go_wp2
      go_ret
      exact ⟨ret_b1 (by rw [H.out]), hb.out⟩
theorem bapp (X A : List UInt8) : (⟨X.toArray⟩ : ByteArray) ++ ⟨A.toArray⟩ = ⟨(X ++ A).toArray⟩ := by
  apply bytes_inj
  simp
theorem insB_k (k : Nat) (a : Int) : insB ((k : Int), a) = putTo (k : Int) 1 ++ if opHas k = true then putTo a 4 else [] := rfl
theorem l02Bytes_any (zs : List (Int × Int)) (a : Option Addr) (c : Nat) (hn : zs.length ≤ 40) (hok : okAll zs = true) (w : World) (hz : Lies w a (flat insC zs)) :
    Calls Tryz.prog 115 #[.slice a zs.length c] w fun e w' => e = .returned (.string ⟨(codeL zs).toArray⟩) ∧ Below w.heap.size w w' := by
  have Hz := Lib.hid hz
  have Hok : Hid (∀ k, k < zs.length → okB (zs.getD k (0, 0)).1 (zs.getD k (0, 0)).2 = true) := Lib.hid (fun k hk => by
    unfold okAll at hok
    rw [List.all_eq_true] at hok
    simpa [List.getD, hk] using hok zs[k] (List.getElem_mem hk))
  clear hz hok
  generalize hL : zs.length = n at *
  have HL := Lib.hid hL
  clear hL
  go_enter Tryz.func115, Tryz.ntmps115
  go_wp2
  go_loopw [3, 4] (fun t i wr => ∃ k : Nat, k ≤ n ∧ i = .int .i64 k ∧ t = .string ⟨(codeL (zs.take k)).toArray⟩ ∧ Hid (Below w.heap.size w wr)) (fun _ i _ => n - (intOf i).toNat)
  case atStart => exact ⟨0, Nat.zero_le _, rfl, rfl, Lib.hid (Below.refl _ _)⟩
  case round =>
    obtain ⟨k, hk, rfl, rfl, hb⟩ := hrel
    by_cases hlt : k < n
    · obtain ⟨b1, o1, rfl, hb1, hc1⟩ := Hz.out.open (by rw [flat_len insC_len, HL.out]; omega)
      obtain ⟨c0, c1⟩ := ins_at hc1 (i := k) (by rw [HL.out]; exact hlt)
      have d0 := (hb.out.cell (p := ⟨b1, o1 + k * 2, none⟩) hb1).trans c0
      have d1 := (hb.out.cell (p := ⟨b1, o1 + k * 2 + 1, none⟩) hb1).trans c1
      clear hc1 c0 c1
      obtain ⟨q, hq, q1, q2, q3, q4⟩ := okB_nat (Hok.out k hlt)
      have HT := Lib.hid (codeL_take zs (k := k) (by rw [HL.out]; exact hlt))
      have hl := codeL_len (zs.take k)
      rw [List.length_take, Nat.min_eq_left (by rw [HL.out]; omega)] at hl
      have HQ := Lib.hid hq
      have HI : Hid (insB (zs.getD k (0, 0)) = putTo (q : Int) 1 ++ if opHas q = true then putTo (zs.getD k (0, 0)).2 4 else []) := Lib.hid (by unfold insB; rw [hq]; rfl)
      rw [hq] at d0
      clear hq
      have hy : -2147483648 ≤ (zs.getD k (0, 0)).2 ∧ (zs.getD k (0, 0)).2 ≤ 2147483647 := by have := opLo_ge q; have := opHi_le q; omega
      generalize hY : (zs.getD k (0, 0)).2 = y at *
      have HY := Lib.hid hY
      clear hY q3 q4
      generalize hX : codeL (zs.take k) = X at *
      have HX := Lib.hid hX
      clear hX
      have p1 := putTo_len (q : Int) 1
      have p4 := putTo_len y 4
      have HP1 := Lib.hid (l01Put_any (q : Int) 1 (by omega) (by omega))
      have HP4 := Lib.hid (l01Put_any y 4 (by omega) (by omega))
      rw [show (1 : Int).toNat = 1 from rfl] at HP1
      rw [show (4 : Int).toNat = 4 from rfl] at HP4
      generalize hA : putTo (q : Int) 1 = A at *
      have HA := Lib.hid hA
      clear hA
      generalize hD : putTo y 4 = D at *
      have HD := Lib.hid hD
      clear hD
      have p1' : A.length ≤ 1 := by omega
      have p4' : D.length ≤ 4 := by omega
      clear p1 p4
      cases hh : opHas q
      all_goals
        have Hh := Lib.hid hh
        have HH := Lib.hid (hh ▸ l02Has_any q q1 q2)
        clear hh
        go_wp2_with fail
        refine (HP1.out _).mono ?_
        rintro e w2 ⟨rfl, hb2⟩
        have e0 := (hb2.cell (p := ⟨b1, o1 + k * 2, none⟩) (Nat.lt_of_lt_of_le hb1 hb.out.size)).trans d0
        have e1 := (hb2.cell (p := ⟨b1, o1 + k * 2 + 1, none⟩) (Nat.lt_of_lt_of_le hb1 hb.out.size)).trans d1
        have Hb2 := Lib.hid (hb.out.trans (hb2.mono hb.out.size))
        clear hb2 d0 d1
        go_wp2_with first | (go_at_call 167; refine (HH.out _).mono ?_; rintro e w' ⟨rfl, rfl⟩) | (go_at_call 114; refine (HP4.out _).mono ?_; rintro e w3 ⟨rfl, hb3⟩; have Hb3 := Lib.hid (Hb2.out.trans (hb3.mono Hb2.out.size)); clear hb3)
        go_roundw
        first
          | exact ⟨k + 1, by omega, by go_num, by rw [HT.out, HI.out, Hh.out, bapp, bapp]; simp, Hb3⟩
          | exact ⟨k + 1, by omega, by go_num, by rw [HT.out, HI.out, Hh.out, bapp]; simp, Hb2⟩
        simp [intOf]; omega
    · obtain rfl : k = n := by omega
      have H : Hid (codeL (zs.take k) = codeL zs) := Lib.hid (by rw [List.take_of_length_le (by rw [HL.out]; exact Nat.le_refl _)])
      go_wp2
      go_ret
      exact ⟨ret_s2 H.out, hb.out⟩
theorem ret_sc {a b : List UInt8} {c d : Int} (h : a = b) (g : c = d) : Ending.returned (.tuple #[.string ⟨a.toArray⟩, .int .i64 c]) = .returned (.tuple #[.string ⟨b.toArray⟩, .int .i64 d]) := by rw [h, g]
end Go.Proofs.YtppgknjpbfopjaaGreatDoor
