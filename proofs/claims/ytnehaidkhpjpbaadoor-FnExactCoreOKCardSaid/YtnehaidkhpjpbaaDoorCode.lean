/- CodeText of impl and of spec. -/
import Derived.Test.YtnehaidkhpjpbaaDoorInsRow
import Derived.Test.YtnehaidkhpjpbaaDoorPut
import Derived.Test.YtnehaidkhpjpbaaDoorDig
import Derived.Lib.AppendStr
namespace Go.Proofs.YtnehaidkhpjpbaaDoor
open Go.ChangeShapes Go.WideShapes Go.ChangeAt Go.RowKit
/-- An instruction's bytes. -/
def insB (z : Int × Int) : List UInt8 := putTo z.1 1 ++ if opHas z.1.toNat = true then putTo z.2 4 else []
def codeL (zs : List (Int × Int)) : List UInt8 := zs.flatMap insB
theorem insB_len (z : Int × Int) : (insB z).length ≤ 5 := by
  unfold insB
  rw [List.length_append, putTo_len]
  split
  · rw [putTo_len]
    omega
  · simp
theorem codeL_len (zs : List (Int × Int)) : (codeL zs).length ≤ 5 * zs.length := by
  induction zs with
  | nil => simp [codeL]
  | cons z t ih =>
    have := insB_len z
    have e : codeL (z :: t) = insB z ++ codeL t := by simp [codeL]
    rw [e, List.length_append, List.length_cons]
    omega
theorem codeL_snoc (zs : List (Int × Int)) (z : Int × Int) : codeL (zs ++ [z]) = codeL zs ++ insB z := by simp [codeL]
theorem codeL_take (zs : List (Int × Int)) {k : Nat} (hk : k < zs.length) : codeL (zs.take (k + 1)) = codeL (zs.take k) ++ insB (zs.getD k (0, 0)) := by
  rw [List.take_add_one, List.getElem?_eq_getElem hk, Option.toList_some, codeL_snoc]
  simp [List.getD, hk]
def okAll (zs : List (Int × Int)) : Bool := zs.all fun z => okB z.1 z.2
theorem okAll_yes {zs : List (Int × Int)} (h : ∀ k, k < zs.length → okB (zs.getD k (0, 0)).1 (zs.getD k (0, 0)).2 = true) : okAll zs = true := by
  unfold okAll
  rw [List.all_eq_true]
  intro z hz
  obtain ⟨i, hi, rfl⟩ := List.getElem_of_mem hz
  have := h i hi
  simpa [List.getD, hi] using this
theorem okAll_no {zs : List (Int × Int)} {k : Nat} (hk : k < zs.length) (h : okB (zs.getD k (0, 0)).1 (zs.getD k (0, 0)).2 = false) : okAll zs = false := by
  cases e : okAll zs
  · rfl
  · unfold okAll at e
    rw [List.all_eq_true] at e
    have := e zs[k] (List.getElem_mem hk)
    simp [List.getD, hk] at h
    rw [h] at this
    cases this
def codeT (zs : List (Int × Int)) : List UInt8 := if 40 < zs.length ∨ okAll zs = false then [] else codeL zs
def codeCd (zs : List (Int × Int)) : Int := if 4096 < zs.length then 2 else if 40 < zs.length then 6 else if okAll zs = false then 1 else 0
theorem code_long {zs : List (Int × Int)} (h : 4096 < zs.length) : codeT zs = [] ∧ codeCd zs = 2 := ⟨if_pos (.inl (by omega)), if_pos h⟩
theorem code_many {zs : List (Int × Int)} (h : ¬ 4096 < zs.length) (g : 40 < zs.length) : codeT zs = [] ∧ codeCd zs = 6 := ⟨if_pos (.inl g), by unfold codeCd; rw [if_neg h, if_pos g]⟩
theorem code_bad {zs : List (Int × Int)} (g : ¬ 40 < zs.length) (h : okAll zs = false) : codeT zs = [] ∧ codeCd zs = 1 := ⟨if_pos (.inr h), by unfold codeCd; rw [if_neg (by omega), if_neg g, if_pos h]⟩
theorem code_ok {zs : List (Int × Int)} (g : ¬ 40 < zs.length) (h : okAll zs = true) : codeT zs = codeL zs ∧ codeCd zs = 0 := ⟨if_neg (by rintro (a | a); exact g a; rw [h] at a; cases a), by unfold codeCd; rw [if_neg (by omega), if_neg g, if_neg (by rw [h]; simp)]⟩
theorem l02All_any (zs : List (Int × Int)) (a : Option Addr) (c : Nat) (hn : zs.length ≤ 1048576) (w : World) (hz : Lies w a (flat insC zs)) :
    Calls Tryd.prog 67 #[.slice a zs.length c] w fun e w' => e = .returned (.bool (okAll zs)) ∧ Below w.heap.size w w' := by
  have Hz := Lib.hid hz
  clear hz
  generalize hL : zs.length = n at *
  have HL := Lib.hid hL
  clear hL
  go_enter Tryd.func67, Tryd.ntmps67
  go_wp2
  go_loopw [3] (fun i wr => ∃ k : Nat, k ≤ n ∧ i = .int .i64 k ∧ Hid (∀ j, j < k → okB (zs.getD j (0, 0)).1 (zs.getD j (0, 0)).2 = true) ∧ Hid (Below w.heap.size w wr)) (fun i _ => n - (intOf i).toNat)
  case atStart => exact ⟨0, Nat.zero_le _, rfl, Lib.hid (by intro j hj; omega), Lib.hid (Below.refl _ _)⟩
  case round =>
    obtain ⟨k, hk, rfl, hr, hb⟩ := hrel
    by_cases hlt : k < n
    · obtain ⟨b1, o1, rfl, hb1, hc1⟩ := Hz.out.open (by rw [flat_len insC_len, HL.out]; omega)
      obtain ⟨c0, c1⟩ := ins_at hc1 (i := k) (by rw [HL.out]; exact hlt)
      have d0 := (hb.out.cell (p := ⟨b1, o1 + k * 2, none⟩) hb1).trans c0
      have d1 := (hb.out.cell (p := ⟨b1, o1 + k * 2 + 1, none⟩) hb1).trans c1
      clear hc1 c0 c1
      cases he : okB (zs.getD k (0, 0)).1 (zs.getD k (0, 0)).2
      · have H := Lib.hid (okAll_no (zs := zs) (k := k) (by rw [HL.out]; exact hlt) he)
        have HK := Lib.hid (fun w => he ▸ l02OK_any (zs.getD k (0, 0)).1 (zs.getD k (0, 0)).2 w)
        clear he
        generalize (zs.getD k (0, 0)).1 = x at *
        generalize (zs.getD k (0, 0)).2 = y at *
        go_wp2_with (go_at_call 101; refine (HK.out _).mono ?_; rintro e w2 ⟨rfl, hb2⟩; have Hb2 := Lib.hid (hb.out.trans (hb2.mono hb.out.size)); clear hb2)
        go_ret
        exact ⟨ret_b1 (by rw [H.out]), Hb2.out⟩
      · have hx : Hid (∀ j, j < k + 1 → okB (zs.getD j (0, 0)).1 (zs.getD j (0, 0)).2 = true) := Lib.hid (fun j hj => by
          by_cases e : j = k
          · rw [e]; exact he
          · exact hr.out j (by omega))
        have HK := Lib.hid (fun w => he ▸ l02OK_any (zs.getD k (0, 0)).1 (zs.getD k (0, 0)).2 w)
        clear he
        generalize hX : (zs.getD k (0, 0)).1 = x at *
        have HX := Lib.hid hX
        clear hX
        generalize hY : (zs.getD k (0, 0)).2 = y at *
        have HY := Lib.hid hY
        clear hY
        go_wp2_with (go_at_call 101; refine (HK.out _).mono ?_; rintro e w2 ⟨rfl, hb2⟩; have Hb2 := Lib.hid (hb.out.trans (hb2.mono hb.out.size)); clear hb2)
        go_roundw
        case rel => exact ⟨k + 1, by omega, by go_num, hx, Hb2⟩
        case measure => simp [intOf]; omega
    · obtain rfl : k = n := by omega
      have H := Lib.hid (okAll_yes (zs := zs) (fun j hj => hr.out j (by rw [← HL.out]; exact hj)))
      go_wp2
      go_ret
      exact ⟨ret_b1 (by rw [H.out]), hb.out⟩
theorem bapp (X A : List UInt8) : (⟨X.toArray⟩ : ByteArray) ++ ⟨A.toArray⟩ = ⟨(X ++ A).toArray⟩ := by
  apply bytes_inj
  simp
theorem insB_k (k : Nat) (a : Int) : insB ((k : Int), a) = putTo (k : Int) 1 ++ if opHas k = true then putTo a 4 else [] := rfl
theorem ret_sc {a b : List UInt8} {c d : Int} (h : a = b) (g : c = d) : Ending.returned (.tuple #[.string ⟨a.toArray⟩, .int .i64 c]) = .returned (.tuple #[.string ⟨b.toArray⟩, .int .i64 d]) := by rw [h, g]
end Go.Proofs.YtnehaidkhpjpbaaDoor
