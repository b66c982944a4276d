/- The law on ReadInstr. -/
import Derived.Test.YtnokkkmokfojnaaDoorReadL
import Derived.Test.YtnokkkmokfojnaaDoorPut
namespace Go.Proofs.YtnokkkmokfojnaaDoor
open Go.ChangeShapes Go.WideShapes Go.ChangeAt Go.RowKit Go.PlainAid
theorem tSyn : (Tryd.prog.globals[3]?).map (·.type) = some 81 := by kernel_rfl
theorem tRng : (Tryd.prog.globals[4]?).map (·.type) = some 81 := by kernel_rfl
theorem strErr_of {W : World} (h : laidMetH Tryd.prog [("strconv.ErrRange", Rows.laid_strconv_ErrRange), ("strconv.ErrSyntax", Rows.laid_strconv_ErrSyntax)] W) : StrErr W := by
  have h' : laidMet Tryd.prog [("strconv.ErrRange", Rows.laid_strconv_ErrRange), ("strconv.ErrSyntax", Rows.laid_strconv_ErrSyntax)] W := h
  obtain ⟨a, b, s0, s1, c0, c1, t0, t1, v0, v1, _⟩ := laid_sentinels2 (nm := "*errors.errorString") h' gERng tRng gESyn tSyn Tryd.underlying81 rowES Tryd.underlying150 Tryd.underlying152 rfl rfl Tryd.underlying9 cellsES cellsS
  exact ⟨⟨_, _, v1⟩, _, _, v0⟩
theorem FnExactReadInstr_came (s : ByteArray) (W : World) (hm : s.size ≤ maxLen) (hf : OpTab W ∧ Pow10 W ∧ StrErr W) :
    Calls Tryd.prog 10 #[.string s] W fun e w' => e = .returned (.bool true) ∧ Below W.heap.size W w' := by
  obtain ⟨hT, hP, hE⟩ := hf
  have HT := Lib.hid hT
  have HP := Lib.hid hP
  have HE := Lib.hid hE
  have HA := Lib.hid (specReadInstr_any s hm)
  have HB := Lib.hid (fun w hb => readInstr_any s hm w (OpTab.below HT.out hb (Nat.le_refl _)) (Pow10.below HP.out hb (Nat.le_refl _)) (StrErr.below HE.out hb (Nat.le_refl _)))
  have hb : (s.size : Int) ≤ 9223372036854775807 := by unfold maxLen at hm; omega
  clear hT hP hE hm
  by_cases hlong : 1048576 < s.size
  · go_enter Tryd.func10, Tryd.ntmps10
    go_wp2
    go_ret
    exact ⟨rfl, Below.refl _ _⟩
  go_enter Tryd.func10, Tryd.ntmps10
  go_wp2_with fail
  refine (HA.out _).mono ?_
  rintro e w1 ⟨x, y, c, rfl, hr, hb1⟩
  have Hb1 := Lib.hid (hb1.alloc hb1.size (.cells #[.int .i64 x, .int .i64 y] 25))
  have Hr := Lib.hid hr
  clear hb1 hr
  go_wp2_with fail
  refine (HB.out _ Hb1.out).mono ?_
  rintro e w2 ⟨x', y', c', rfl, hr2, hb2⟩
  obtain ⟨rfl, rfl, rfl⟩ := rI_one Hr.out hr2
  have K1 := (hb2.block w1.heap.size (by simp)).trans (heap_alloc_new w1 _)
  have hz : w1.heap.size < w2.heap.size := by have := hb2.size; simp at this; omega
  obtain ⟨c0, c1, f0, f1⟩ := blk_cs2 K1
  have hne : w1.heap.size ≠ w2.heap.size := by omega
  have Hb2 := Lib.hid (Hb1.out.trans (hb2.mono Hb1.out.size))
  have Hb3 := Lib.hid (Hb2.out.alloc Hb2.out.size (.cells #[.int .i64 x, .int .i64 y] 25))
  have hcc : (c != c) = false := by simp
  clear hb2 hr2 K1 Hr
  go_wp2_with fail
  refine (eqInstr_same _ _ _).mono ?_
  rintro e w3 ⟨rfl, hb3⟩
  have Hb4 := Lib.hid (Hb3.out.trans (hb3.mono Hb3.out.size))
  clear hb3
  go_wp2
  go_ret
  exact ⟨rfl, Hb4.out⟩
end Go.Proofs.YtnokkkmokfojnaaDoor
