/- The verifier of spec: what an instruction takes and gives; what is taken. -/
import Derived.Test.YtbbhoaljldgjeaaDoorVCode
namespace Go.Proofs.YtbbhoaljldgjeaaDoor
open Go.ChangeShapes Go.WideShapes Go.ChangeAt Go.RowKit
set_option linter.unusedVariables false
def bs (l : List UInt8) : ByteArray := ⟨l.toArray⟩
theorem bs_list (l : List UInt8) : (bs l).data.toList = l := by simp [bs]
theorem bs_size (l : List UInt8) : (bs l).size = l.length := by simp [bs, ByteArray.size]
theorem bs_of (s : ByteArray) : s = bs s.data.toList := by
  apply bytes_inj
  rw [bs_list]
theorem take_short (S T : ByteArray) (f : Nat) (h1 : S.size ≤ 100) (h2 : T.size ≤ 100) (h3 : f ≤ 100) (h : S.size < f + T.size) (w : World) :
    Calls Tryd.prog 72 #[.string S, .string T, .int .i64 f] w fun e w' => e = .returned (.tuple #[.string ⟨#[]⟩, .int .i64 13]) ∧ w = w' := by
  have hd : decide ((S.size : Int) - f < T.size) = true := decide_eq_true (by omega)
  have hd2 : ((S.size : Int) - f < T.size) := by omega
  go_enter Tryd.func72, Tryd.ntmps72
  go_wp2
  go_ret2
  exact ⟨rfl, rfl⟩
theorem ext_drop (l : List UInt8) (r : Nat) : (bs l).extract r l.length = bs (l.drop r) := by
  apply bytes_inj
  simp [bs, ByteArray.data_extract]
  exact List.take_of_length_le (by simp)
theorem ext_take (l : List UInt8) (r : Nat) : (bs l).extract 0 r = bs (l.take r) := by
  apply bytes_inj
  simp [bs, ByteArray.data_extract]
theorem ret_sb {a b : ByteArray} {c d : Int} (h : a = b) (g : c = d) : Ending.returned (.tuple #[.string a, .int .i64 c]) = .returned (.tuple #[.string b, .int .i64 d]) := by rw [h, g]
theorem l04Take_any (st : List UInt8) (T : ByteArray) (f : Nat) (h1 : st.length ≤ 100) (h2 : T.size ≤ 100) (h3 : f ≤ st.length) (w : World) :
    Calls Tryd.prog 72 #[.string (bs st), .string T, .int .i64 f] w fun e w' => e = .returned (.tuple #[.string (bs (vTake st T.data.toList f).1), .int .i64 (vTake st T.data.toList f).2]) ∧ w = w' := by
  have hts : T.data.toList.length = T.size := rfl
  by_cases h : st.length < f + T.size
  · have e : vTake st T.data.toList f = ([], 13) := if_pos (by omega)
    rw [e]
    exact take_short (bs st) T f (by rw [bs_size]; omega) h2 (by omega) (by rw [bs_size]; omega) w
  · obtain ⟨r, hr⟩ : ∃ r, st.length = r + T.size := ⟨st.length - T.size, by omega⟩
    have hS := bs_size st
    have hd : ¬ (((bs st).size : Int) - f < T.size) := by omega
    have hs : (((bs st).size : Int) - T.size) = r := by omega
    have hrl : r ≤ (bs st).size := by omega
    have hb1 : (bs st).size ≤ 100 := by omega
    have hfr : f ≤ r := by omega
    have HX1 := Lib.hid (show (bs st).extract r (bs st).size = bs (st.drop r) by rw [hS]; exact ext_drop st r)
    have HX2 := Lib.hid (ext_take st r)
    have HT : Hid (vTake st T.data.toList f = if st.drop r = T.data.toList then (st.take r, 0) else ([], 12)) := Lib.hid (by
      unfold vTake
      rw [if_neg (by omega), show st.length - T.data.toList.length = r by omega])
    have HU := Lib.hid (bs_list (st.drop r))
    clear hS hts hr h h1 h3
    generalize vTake st T.data.toList f = V at *
    generalize bs st = S at *
    go_enter Tryd.func72, Tryd.ntmps72
    go_wp2
    · rename_i hq
      have hne : st.drop r ≠ T.data.toList := fun e => by
        rw [HX1.out, beq_yes HU.out rfl e] at hq
        simp at hq
      go_ret2
      exact ⟨ret_sb (by rw [HT.out, if_neg hne]; rfl) (by rw [HT.out, if_neg hne]), rfl⟩
    · rename_i hq
      have heq : st.drop r = T.data.toList := Classical.byContradiction fun e => by
        rw [HX1.out, beq_no HU.out rfl e] at hq
        simp at hq
      go_ret2
      exact ⟨ret_sb (by rw [HT.out, if_pos heq]; exact HX2.out) (by rw [HT.out, if_pos heq]), rfl⟩
theorem tk4 (n : Int) (hk : kindB n = true) (w : World) : Calls Tryd.prog 96 #[.int .i64 n] w fun e w' => e = .returned (.string (takesF n)) ∧ Below w.heap.size w w' := by
  rcases kindB_yes hk with rfl | rfl | rfl | rfl
  all_goals
    clear hk
    go_enter Tryd.func96, Tryd.ntmps96
    go_wp2
    go_ret
    exact ⟨rfl, (Below.refl w.heap.size w).alloc (Nat.le_refl _) _⟩
set_option maxHeartbeats 4000000 in
theorem l04Sign_plain (k : Nat) (y : Int) (h1 : 1 ≤ k) (h2 : k ≤ 26) (h19 : k ≠ 19) (a : Option Addr) (n c : Nat) (w : World) :
    Calls Tryd.prog 71 #[.agg #[.int .i64 (k : Int), .int .i64 y], .slice a n c] w fun e w' => e = .returned (.tuple #[.string (effT k), .string (effG k)]) ∧ Below w.heap.size w w' := by
  have : k = 1 ∨ k = 2 ∨ k = 3 ∨ k = 4 ∨ k = 5 ∨ k = 6 ∨ k = 7 ∨ k = 8 ∨ k = 9 ∨ k = 10 ∨ k = 11 ∨ k = 12 ∨ k = 13 ∨ k = 14 ∨ k = 15 ∨ k = 16 ∨ k = 17 ∨ k = 18 ∨ k = 20 ∨ k = 21 ∨ k = 22 ∨ k = 23 ∨ k = 24 ∨ k = 25 ∨ k = 26 := by omega
  clear h1 h2 h19
  rcases this with rfl | rfl | rfl | rfl | rfl | rfl | rfl | rfl | rfl | rfl | rfl | rfl | rfl | rfl | rfl | rfl | rfl | rfl | rfl | rfl | rfl | rfl | rfl | rfl | rfl
  all_goals
    go_enter Tryd.func71, Tryd.ntmps71
    go_wp2
    go_ret2
    exact ⟨rfl, (Below.refl w.heap.size w).alloc (Nat.le_refl _) _⟩
theorem l04Sign_block (b o n c : Nat) (y : Nat) (z : Int) (hy : y < n) (hz : kindB z = true) (w : World) (hb : b < w.heap.size) (hk : w.cell? ⟨b, o + y, none⟩ = some (.int .i64 z)) :
    Calls Tryd.prog 71 #[.agg #[.int .i64 19, .int .i64 y], .slice (some ⟨b, o, none⟩) n c] w fun e w' => e = .returned (.tuple #[.string (takesF z), .string ⟨#[98]⟩]) ∧ Below w.heap.size w w' := by
  have HT := Lib.hid (fun w => tk4 z hz w)
  have Hb := Lib.hid ((Below.refl w.heap.size w).alloc (Nat.le_refl _) (.cells #[.int .i64 19, .int .i64 y] 38))
  have d0 := (Hb.out.cell (p := ⟨b, o + y, none⟩) hb).trans hk
  clear hk hz hb
  go_enter Tryd.func71, Tryd.ntmps71
  go_wp2_with fail
  refine Calls.mono (HT.out _) ?_
  rintro e w2 ⟨rfl, hb2⟩
  have Hb2 := Lib.hid (Hb.out.trans (hb2.mono Hb.out.size))
  clear hb2 d0
  go_wp2
  go_ret2
  exact ⟨rfl, Hb2.out⟩
end Go.Proofs.YtbbhoaljldgjeaaDoor
