/- CodeWord and CodeOf of impl and of spec: the words of the codes. -/
import Derived.Test.YtlohjeidaemejaaDoorRows
import Derived.WalkKit
import Derived.ProofKit
import Derived.OpenShut
import Derived.Handy
import Derived.Below
import Derived.Laws.OwnMore
import Derived.Lib.Hide
import Derived.Test.YtlohjeidaemejaaDoorCardKit
namespace Go.Proofs.YtlohjeidaemejaaDoor
open Go.ChangeShapes Go.WideShapes Go.ChangeAt Go.RowKit
def cw : List ByteArray := [⟨#[111, 107]⟩, ⟨#[98, 97, 100]⟩, ⟨#[108, 111, 110, 103]⟩, ⟨#[102, 111, 114, 109]⟩, ⟨#[114, 97, 110, 103, 101]⟩, ⟨#[110, 111, 110, 101]⟩, ⟨#[109, 97, 110, 121]⟩, ⟨#[102, 117, 108, 108]⟩, ⟨#[115, 105, 122, 101]⟩, ⟨#[115, 117, 109]⟩, ⟨#[107, 105, 110, 100]⟩, ⟨#[111, 112]⟩, ⟨#[116, 121, 112, 101]⟩, ⟨#[115, 116, 97, 99, 107]⟩, ⟨#[110, 101, 115, 116]⟩, ⟨#[99, 97, 108, 108]⟩, ⟨#[101, 110, 100]⟩, ⟨#[100, 101, 112, 116, 104]⟩, ⟨#[108, 111, 97, 100]⟩, ⟨#[115, 116, 111, 112, 112, 101, 100]⟩, ⟨#[114, 117, 110, 110, 105, 110, 103]⟩, ⟨#[102, 97, 117, 108, 116]⟩, ⟨#[108, 97, 116, 101]⟩, ⟨#[99, 117, 116]⟩]
def cwAt (k : Nat) : ByteArray := cw.getD k ⟨#[]⟩
def wordF (n : Int) : ByteArray := if 0 ≤ n ∧ n < 24 then cwAt n.toNat else ⟨#[]⟩
theorem wordF_in {k : Nat} (h : k < 24) : wordF (k : Int) = cwAt k := by unfold wordF; rw [if_pos (by omega)]; rfl
theorem wordF_out {n : Int} (h : n < 0 ∨ 24 ≤ n) : wordF n = ⟨#[]⟩ := by unfold wordF; rw [if_neg (by omega)]
theorem cw_cell (w : World) (k : Nat) (h : k < 24) : (w.alloc (.cells #[.string ⟨#[111, 107]⟩, .string ⟨#[98, 97, 100]⟩, .string ⟨#[108, 111, 110, 103]⟩, .string ⟨#[102, 111, 114, 109]⟩, .string ⟨#[114, 97, 110, 103, 101]⟩, .string ⟨#[110, 111, 110, 101]⟩, .string ⟨#[109, 97, 110, 121]⟩, .string ⟨#[102, 117, 108, 108]⟩, .string ⟨#[115, 105, 122, 101]⟩, .string ⟨#[115, 117, 109]⟩, .string ⟨#[107, 105, 110, 100]⟩, .string ⟨#[111, 112]⟩, .string ⟨#[116, 121, 112, 101]⟩, .string ⟨#[115, 116, 97, 99, 107]⟩, .string ⟨#[110, 101, 115, 116]⟩, .string ⟨#[99, 97, 108, 108]⟩, .string ⟨#[101, 110, 100]⟩, .string ⟨#[100, 101, 112, 116, 104]⟩, .string ⟨#[108, 111, 97, 100]⟩, .string ⟨#[115, 116, 111, 112, 112, 101, 100]⟩, .string ⟨#[114, 117, 110, 110, 105, 110, 103]⟩, .string ⟨#[102, 97, 117, 108, 116]⟩, .string ⟨#[108, 97, 116, 101]⟩, .string ⟨#[99, 117, 116]⟩] 9)).cell? ⟨w.heap.size, k, none⟩ = some (.string (cwAt k)) := by
  rw [cell_of_row _ _ k _ _ _ (heap_alloc_new w _)]
  show ((cw.map Value.string).toArray)[k]? = _
  have hl : k < cw.length := h
  simp [cwAt, List.getD, hl]
theorem ret_s' {a b : ByteArray} (h : a = b) : Ending.returned (.string a) = .returned (.string b) := by rw [h]
theorem specCodeWord_any (n : Int) (hn : -9223372036854775808 ≤ n ∧ n ≤ 9223372036854775807) (w : World) : Calls Tryd.prog 26 #[.int .i64 n] w fun e w' => e = .returned (.string (wordF n)) ∧ Below w.heap.size w w' := by
  by_cases h : n < 0 ∨ 24 ≤ n
  · have H := Lib.hid (wordF_out h)
    have Hb := Lib.hid ((Below.refl w.heap.size w).alloc (Nat.le_refl _) (.cells #[.string ⟨#[111, 107]⟩, .string ⟨#[98, 97, 100]⟩, .string ⟨#[108, 111, 110, 103]⟩, .string ⟨#[102, 111, 114, 109]⟩, .string ⟨#[114, 97, 110, 103, 101]⟩, .string ⟨#[110, 111, 110, 101]⟩, .string ⟨#[109, 97, 110, 121]⟩, .string ⟨#[102, 117, 108, 108]⟩, .string ⟨#[115, 105, 122, 101]⟩, .string ⟨#[115, 117, 109]⟩, .string ⟨#[107, 105, 110, 100]⟩, .string ⟨#[111, 112]⟩, .string ⟨#[116, 121, 112, 101]⟩, .string ⟨#[115, 116, 97, 99, 107]⟩, .string ⟨#[110, 101, 115, 116]⟩, .string ⟨#[99, 97, 108, 108]⟩, .string ⟨#[101, 110, 100]⟩, .string ⟨#[100, 101, 112, 116, 104]⟩, .string ⟨#[108, 111, 97, 100]⟩, .string ⟨#[115, 116, 111, 112, 112, 101, 100]⟩, .string ⟨#[114, 117, 110, 110, 105, 110, 103]⟩, .string ⟨#[102, 97, 117, 108, 116]⟩, .string ⟨#[108, 97, 116, 101]⟩, .string ⟨#[99, 117, 116]⟩] 9))
    rcases h with h | h
    all_goals
      go_enter Tryd.func26, Tryd.ntmps26
      go_wp2
      go_ret
      exact ⟨ret_s' (by rw [H.out]), Hb.out⟩
  · obtain ⟨k, rfl⟩ := Int.eq_ofNat_of_zero_le (show 0 ≤ n by omega)
    have hk : k < 24 := by omega
    have H := Lib.hid (wordF_in hk)
    have hc := cw_cell w k hk
    have Hb := Lib.hid ((Below.refl w.heap.size w).alloc (Nat.le_refl _) (.cells #[.string ⟨#[111, 107]⟩, .string ⟨#[98, 97, 100]⟩, .string ⟨#[108, 111, 110, 103]⟩, .string ⟨#[102, 111, 114, 109]⟩, .string ⟨#[114, 97, 110, 103, 101]⟩, .string ⟨#[110, 111, 110, 101]⟩, .string ⟨#[109, 97, 110, 121]⟩, .string ⟨#[102, 117, 108, 108]⟩, .string ⟨#[115, 105, 122, 101]⟩, .string ⟨#[115, 117, 109]⟩, .string ⟨#[107, 105, 110, 100]⟩, .string ⟨#[111, 112]⟩, .string ⟨#[116, 121, 112, 101]⟩, .string ⟨#[115, 116, 97, 99, 107]⟩, .string ⟨#[110, 101, 115, 116]⟩, .string ⟨#[99, 97, 108, 108]⟩, .string ⟨#[101, 110, 100]⟩, .string ⟨#[100, 101, 112, 116, 104]⟩, .string ⟨#[108, 111, 97, 100]⟩, .string ⟨#[115, 116, 111, 112, 112, 101, 100]⟩, .string ⟨#[114, 117, 110, 110, 105, 110, 103]⟩, .string ⟨#[102, 97, 117, 108, 116]⟩, .string ⟨#[108, 97, 116, 101]⟩, .string ⟨#[99, 117, 116]⟩] 9))
    clear h
    go_enter Tryd.func26, Tryd.ntmps26
    go_wp2
    go_ret
    exact ⟨ret_s' (by rw [H.out]), Hb.out⟩
/-- The table of the words, as it lies in memory. -/
def CwTab (w : World) : Prop := ∀ k, k < 24 → w.cell? ⟨0, k, none⟩ = some (.string (cwAt k))
theorem codeWord_any (n : Int) (hn : -9223372036854775808 ≤ n ∧ n ≤ 9223372036854775807) (w : World) (ht : CwTab w) : Calls Tryd.prog 27 #[.int .i64 n] w fun e w' => e = .returned (.string (wordF n)) ∧ w = w' := by
  by_cases h : n < 0 ∨ 24 ≤ n
  · have H := Lib.hid (wordF_out h)
    rcases h with h | h
    all_goals
      go_enter Tryd.func27, Tryd.ntmps27
      go_wp2
      go_ret
      exact ⟨ret_s' (by rw [H.out]), rfl⟩
  · obtain ⟨k, rfl⟩ := Int.eq_ofNat_of_zero_le (show 0 ≤ n by omega)
    have hk : k < 24 := by omega
    have H := Lib.hid (wordF_in hk)
    have hc := ht k hk
    clear h ht
    go_enter Tryd.func27, Tryd.ntmps27
    go_wp2
    go_ret
    exact ⟨ret_s' (by rw [H.out]), rfl⟩
/-- The first code whose word is s; -1. -/
def codeF (s : ByteArray) : Int := match (List.range 24).find? (fun i => (cwAt i).toList == s.toList) with | some i => (i : Int) | none => -1
theorem find_range_at {p : Nat → Bool} {n k : Nat} (hk : k < n) (hp : p k = true) (hj : ∀ j, j < k → p j = false) : (List.range n).find? p = some k := by
  rw [List.find?_range_eq_some]
  exact ⟨hp, by simpa using hk, fun j h => by simp [hj j h]⟩
theorem codeF_yes {s : ByteArray} {k : Nat} (hk : k < 24) (h : ((cwAt k).toList == s.toList) = true) (g : ∀ j, j < k → ((cwAt j).toList == s.toList) = false) : codeF s = k := by
  unfold codeF
  rw [find_range_at hk h g]
theorem codeF_no {s : ByteArray} (g : ∀ j, j < 24 → ((cwAt j).toList == s.toList) = false) : codeF s = -1 := by
  unfold codeF
  rw [List.find?_eq_none.2 (fun x hx => by simp [g x (by simpa using hx)])]
theorem ret_i'' {k : IntKind} {a b : Int} (h : a = b) : Ending.returned (.int k a) = .returned (.int k b) := by rw [h]
theorem codeOf_any (s : ByteArray) (w : World) (ht : CwTab w) : Calls Tryd.prog 29 #[.string s] w fun e w' => e = .returned (.int .i64 (codeF s)) ∧ w = w' := by
  have Ht := Lib.hid ht
  clear ht
  go_enter Tryd.func29, Tryd.ntmps29
  go_wp2
  go_loop [4] (fun i => ∃ k : Nat, k ≤ 24 ∧ i = .int .i64 k ∧ Hid (∀ j, j < k → ((cwAt j).toList == s.toList) = false)) (fun i => 24 - (intOf i).toNat)
  case atStart => exact ⟨0, Nat.zero_le _, rfl, Lib.hid (by intro j hj; omega)⟩
  case round =>
    obtain ⟨k, hk, rfl, hr⟩ := hrel
    by_cases hlt : k < 24
    · have hc := Ht.out k hlt
      cases he : ((cwAt k).toList == s.toList)
      · have hx : Hid (∀ j, j < k + 1 → ((cwAt j).toList == s.toList) = false) := Lib.hid (fun j hj => by
          by_cases e : j = k
          · rw [e]; exact he
          · exact hr.out j (by omega))
        go_wp2
        go_round
        case rel => exact ⟨k + 1, by omega, by go_num, hx⟩
        case measure => simp [intOf]; omega
      · have H := Lib.hid (codeF_yes hlt he hr.out)
        go_wp2
        go_ret
        exact ⟨ret_i'' (by rw [H.out]), rfl⟩
    · obtain rfl : k = 24 := by omega
      have H := Lib.hid (codeF_no hr.out)
      go_wp2
      go_ret
      exact ⟨ret_i'' (by rw [H.out]), rfl⟩
theorem specCodeOf_any (s : ByteArray) (w : World) : Calls Tryd.prog 28 #[.string s] w fun e w' => e = .returned (.int .i64 (codeF s)) ∧ Below w.heap.size w w' := by
  go_enter Tryd.func28, Tryd.ntmps28
  go_wp2
  go_loopw [3] (fun i wr => ∃ k : Nat, k ≤ 24 ∧ i = .int .i64 k ∧ Hid (∀ j, j < k → ((cwAt j).toList == s.toList) = false) ∧ Hid (Below w.heap.size w wr)) (fun i _ => 24 - (intOf i).toNat)
  case atStart => exact ⟨0, Nat.zero_le _, rfl, Lib.hid (by intro j hj; omega), Lib.hid (Below.refl _ _)⟩
  case round =>
    obtain ⟨k, hk, rfl, hr, hb⟩ := hrel
    by_cases hlt : k < 24
    · have Hw := Lib.hid (wordF_in hlt)
      cases he : ((cwAt k).toList == s.toList)
      · have hx : Hid (∀ j, j < k + 1 → ((cwAt j).toList == s.toList) = false) := Lib.hid (fun j hj => by
          by_cases e : j = k
          · rw [e]; exact he
          · exact hr.out j (by omega))
        go_wp2_with (go_at_call 26; refine (specCodeWord_any _ (by omega) _).mono ?_; rintro e w1 ⟨rfl, hb1⟩; rw [Hw.out]; have Hb1 := Lib.hid (hb.out.trans (hb1.mono hb.out.size)); clear hb1)
        go_roundw
        case rel => exact ⟨k + 1, by omega, by go_num, hx, Hb1⟩
        case measure => simp [intOf]; omega
      · have H := Lib.hid (codeF_yes hlt he hr.out)
        go_wp2_with (go_at_call 26; refine (specCodeWord_any _ (by omega) _).mono ?_; rintro e w1 ⟨rfl, hb1⟩; rw [Hw.out]; have Hb1 := Lib.hid (hb.out.trans (hb1.mono hb.out.size)); clear hb1)
        go_ret
        exact ⟨ret_i'' (by rw [H.out]), Hb1.out⟩
    · obtain rfl : k = 24 := by omega
      have H := Lib.hid (codeF_no hr.out)
      go_wp2
      go_ret
      exact ⟨ret_i'' (by rw [H.out]), hb.out⟩
theorem CwTab.below {w w' : World} (h : CwTab w) (g : Below w.heap.size w w') : CwTab w' := fun k hk => by
  have hc := h k hk
  have hlt : 0 < w.heap.size := by
    rcases Nat.lt_or_ge 0 w.heap.size with h' | h'
    · exact h'
    · simp [World.cell?, Array.getElem?_eq_none h'] at hc
  exact (g.cell (p := ⟨0, k, none⟩) hlt).trans hc
theorem gWords : Tryd.prog.globalNamed "loop.example/g00684/impl.codeWords" = some 0 := by kernel_rfl
theorem tWords : (Tryd.prog.globals[0]?).map (·.type) = some 55 := by kernel_rfl
theorem cellsStr : Tryd.prog.cellsOf 9 = 1 := by kernel_rfl
theorem cellsWords : Tryd.prog.cellsOf 55 = 24 := by kernel_rfl
/-- What the row's list gives: the table lies as its words. -/
theorem cwTab_of {W : World} (h : laidMetH Tryd.prog [("loop.example/g00684/impl.codeWords", Rows.laid_loop_example_g00684_impl_codeWords)] W) : CwTab W := by
  have h' : laidMet Tryd.prog (("loop.example/g00684/impl.codeWords", .agg (cw.map fun b => .lit (.string b.data.toList))) :: []) W := h
  have := strs_of_head gWords tWords Tryd.underlying55 Tryd.underlying9 cellsStr cellsWords h'
  intro k hk
  have hl : k < cw.length := hk
  rw [this k]
  simp [cwAt, List.getD, hl]
theorem FnExactCodeWord_walk (n : Int) (hn : (Lit.int .i64 n).wf = true) (w : World) (ht : CwTab w) : Calls Tryd.prog 5 #[.int .i64 n] w fun e w' => e = .returned (.bool true) ∧ Below w.heap.size w w' := by
  have hb := bounds_i64 hn
  have Ht := Lib.hid ht
  clear ht hn
  go_enter Tryd.func5, Tryd.ntmps5
  go_wp2_with first | (go_at_call 26; refine (specCodeWord_any _ hb _).mono ?_; rintro e w1 ⟨rfl, hb1⟩; have Hb1 := Lib.hid hb1; clear hb1) | (go_at_call 27; refine (codeWord_any _ hb _ (Ht.out.below Hb1.out)).mono ?_; rintro e w1 ⟨rfl, rfl⟩)
  go_ret
  exact ⟨rfl, Hb1.out⟩
theorem FnExactCodeOf_walk (s : ByteArray) (hs : s.size ≤ maxLen) (w : World) (ht : CwTab w) : Calls Tryd.prog 6 #[.string s] w fun e w' => e = .returned (.bool true) ∧ Below w.heap.size w w' := by
  have hb : (s.size : Int) ≤ 9223372036854775807 := by unfold maxLen at hs; omega
  have Ht := Lib.hid ht
  clear ht
  go_enter Tryd.func6, Tryd.ntmps6
  go_wp2_with first | (go_at_call 28; refine (specCodeOf_any _ _).mono ?_; rintro e w1 ⟨rfl, hb1⟩; have Hb1 := Lib.hid hb1; clear hb1) | (go_at_call 29; refine (codeOf_any _ _ (Ht.out.below Hb1.out)).mono ?_; rintro e w1 ⟨rfl, rfl⟩)
  all_goals go_ret
  · exact ⟨rfl, Below.refl _ _⟩
  · exact ⟨rfl, Hb1.out⟩
end Go.Proofs.YtlohjeidaemejaaDoor
