/- InstrText of impl and of spec. -/
import Derived.Test.YtnokkkmokfojnaaDoorInsOK
import Derived.Test.YtnokkkmokfojnaaDoorDig
import Derived.Test.YtnokkkmokfojnaaDoorShelf
import Derived.Lib.LaidTab
namespace Go.Proofs.YtnokkkmokfojnaaDoor
open Go.ChangeShapes Go.WideShapes Go.ChangeAt Go.RowKit
def insL (k : Nat) (a : Int) : List UInt8 := (opNm k).data.toList ++ if opHas k = true then 32 :: Lib.itoa a else []
def txtF (n a : Int) : List UInt8 := if okB n a = true then insL n.toNat a else []
def txtC (n a : Int) : Int := if okB n a = true then 0 else 1
theorem txt_in {k : Nat} {a : Int} (h : okB (k : Int) a = true) : txtF (k : Int) a = insL k a ∧ txtC (k : Int) a = 0 := by unfold txtF txtC; rw [if_pos h, if_pos h]; exact ⟨rfl, rfl⟩
theorem txt_out {n a : Int} (h : okB n a = false) : txtF n a = [] ∧ txtC n a = 1 := by unfold txtF txtC; rw [if_neg (by rw [h]; simp), if_neg (by rw [h]; simp)]; exact ⟨rfl, rfl⟩
theorem ret_si {a b : List UInt8} {c d : Int} (h : a = b) (g : c = d) : Ending.returned (.tuple #[.string ⟨a.toArray⟩, .int .i64 c]) = .returned (.tuple #[.string ⟨b.toArray⟩, .int .i64 d]) := by rw [h, g]
theorem below_grow {w : World} {k : Nat} {os : Array Obj} : Below w.heap.size w (Sort.grow (w.drewN k) os) := ⟨rfl, rfl, rfl, by show w.heap.size ≤ (w.heap ++ os).size; rw [Array.size_append]; omega, fun _ hj => Sort.heap_grow_old w os hj⟩
/-- The table that Itoa reads. -/
def Pow10 (w : World) : Prop := Lib.TabIs Tryd.prog w "internal/strconv.uint64pow10" .u64 Lib.pow10Tab
theorem gPow : Tryd.prog.globalNamed "internal/strconv.uint64pow10" = some 5 := by kernel_rfl
theorem Pow10.lt {w : World} (h : Pow10 w) : 5 < w.heap.size := by
  rcases Nat.lt_or_ge 5 w.heap.size with h' | h'
  · exact h'
  · unfold Pow10 Lib.TabIs at h
    simp [World.var?, gPow, Array.getElem?_eq_none h'] at h
theorem Pow10.below {B : Nat} {w w' : World} (h : Pow10 w) (g : Below B w w') (hB : w.heap.size ≤ B) : Pow10 w' :=
  var?_below (g.mono hB) gPow h.lt h
theorem itoa_any (n : Int) (h0 : -2147483648 ≤ n) (h1 : n ≤ 2147483647) (w : World) (ht : Pow10 w) : Calls Tryd.prog 48 #[.int .i64 n] w fun e w' => e = .returned (.string ⟨(Lib.itoa n).toArray⟩) ∧ Below w.heap.size w w' := by
  refine (Tryd.strconv_Itoa n (by omega) (by omega) w ht).mono ?_
  rintro e w' ⟨he, k, os, rfl⟩
  exact ⟨he, below_grow⟩
theorem instrText_any (n a : Int) (w : World) (ht : OpTab w) (hp : Pow10 w) : Calls Tryd.prog 17 #[.agg #[.int .i64 n, .int .i64 a]] w fun e w' => e = .returned (.tuple #[.string ⟨(txtF n a).toArray⟩, .int .i64 (txtC n a)]) ∧ Below w.heap.size w w' := by
  have Hb := Lib.hid ((Below.refl w.heap.size w).alloc (Nat.le_refl _) (.cells #[.int .i64 n, .int .i64 a] 25))
  have Ht := Lib.hid ht
  clear ht
  cases ho : okB n a
  · have H := Lib.hid (txt_out ho)
    have HI := Lib.hid (fun w ht => ho ▸ instrOK_any n a w ht)
    clear ho
    go_enter Tryd.func17, Tryd.ntmps17
    go_wp2_with fail
    refine (HI.out _ (Ht.out.below Hb.out (Nat.le_refl _))).mono ?_
    rintro e w1 ⟨rfl, hb1⟩
    have Hb1 := Lib.hid (Hb.out.trans (hb1.mono Hb.out.size))
    clear hb1
    go_wp2
    go_ret2
    exact ⟨ret_si (by rw [H.out.1]) (by rw [H.out.2]), Hb1.out⟩
  · obtain ⟨k, rfl, h1, h2, h3, h4⟩ := okB_nat ho
    have H := Lib.hid (txt_in ho)
    have HI := Lib.hid (fun w ht => ho ▸ instrOK_any (k : Int) a w ht)
    have ha : -2147483648 ≤ a ∧ a ≤ 2147483647 := by have := opLo_ge k; have := opHi_le k; omega
    have hl := opNm_len k
    have hil := Lib.itoa_length_le a (by omega) (by omega)
    have hk : k < 27 := by omega
    have Hp := Lib.hid (hp.below Hb.out (Nat.le_refl _))
    clear ho h3 h4 hp
    cases hh : opHas k
    all_goals
      have Hh := Lib.hid hh
      have HO := Lib.hid (fun w ht => hh ▸ hasOperand_any k h2 w ht)
      clear hh
      go_enter Tryd.func17, Tryd.ntmps17
      go_wp2_with fail
      refine (HI.out _ (Ht.out.below Hb.out (Nat.le_refl _))).mono ?_
      rintro e w1 ⟨rfl, hb1⟩
      obtain ⟨c0, c1⟩ := keep_two hb1
      have Ht1 := Lib.hid ((Ht.out.below Hb.out (Nat.le_refl _)).below hb1 (Nat.le_refl _))
      have Hp1 := Lib.hid (Hp.out.below hb1 (Nat.le_refl _))
      have Hb1 := Lib.hid (Hb.out.trans (hb1.mono Hb.out.size))
      have d0 := (Ht1.out k (by omega)).1
      clear hb1
      go_wp2_with fail
      refine (HO.out _ Ht1.out).mono ?_
      rintro e w2 ⟨rfl, rfl⟩
      go_wp2_with (go_at_call 48; refine (itoa_any _ ha.1 ha.2 _ Hp1.out).mono ?_; rintro e w2 ⟨rfl, hb2⟩; have Hb2 := Lib.hid (Hb1.out.trans (hb2.mono Hb1.out.size)); clear hb2)
      go_ret2
      first
        | exact ⟨ret_si (by rw [H.out.1]; unfold insL; rw [Hh.out]; simp; rfl) (by rw [H.out.2]), Hb1.out⟩
        | exact ⟨ret_si (by rw [H.out.1]; unfold insL; rw [Hh.out]; simp) (by rw [H.out.2]), Hb2.out⟩
theorem ret_sl {a b : List UInt8} (h : a = b) : Ending.returned (.string ⟨a.toArray⟩) = .returned (.string ⟨b.toArray⟩) := by rw [h]
set_option maxHeartbeats 2000000 in
theorem l02Text_any (k : Nat) (a : Int) (h1 : 1 ≤ k) (h2 : k ≤ 26) (ha : -2147483648 ≤ a ∧ a ≤ 2147483647) (w : World) : Calls Tryd.prog 50 #[.agg #[.int .i64 (k : Int), .int .i64 a]] w fun e w' => e = .returned (.string ⟨(insL k a).toArray⟩) ∧ Below w.heap.size w w' := by
  have Hb := Lib.hid ((Below.refl w.heap.size w).alloc (Nat.le_refl _) (.cells #[.int .i64 (k : Int), .int .i64 a] 25))
  have hl := opNm_len k
  have hil := Lib.itoa_length_le a (by omega) (by omega)
  have HN := Lib.hid (fun w => nameF_in h1 h2 ▸ specOpName_any (k : Int) (by omega) w)
  have HD := Lib.hid (dig_any a (by omega) (by omega))
  cases hh : opHas k
  · have Hh := Lib.hid hh
    have HH := Lib.hid (hh ▸ l02Has_any k h1 h2)
    clear hh
    go_enter Tryd.func50, Tryd.ntmps50
    go_wp2_with first | (go_at_call 71; refine (HH.out _).mono ?_; rintro e w' ⟨rfl, rfl⟩) | (go_at_call 23; refine (HN.out _).mono ?_; rintro e w1 ⟨rfl, hb1⟩; have Hb1 := Lib.hid (Hb.out.trans (hb1.mono Hb.out.size)); clear hb1)
    go_ret
    exact ⟨ret_sl (by unfold insL; rw [Hh.out]; simp; rfl), Hb1.out⟩
  · have Hh := Lib.hid hh
    have HH := Lib.hid (hh ▸ l02Has_any k h1 h2)
    clear hh
    go_enter Tryd.func50, Tryd.ntmps50
    go_wp2_with (go_at_call 71; refine (HH.out _).mono ?_; rintro e w' ⟨rfl, rfl⟩)
    go_region_with first | (go_at_call 23; refine (HN.out _).mono ?_; rintro e w1 ⟨rfl, hb1⟩; obtain ⟨c0, c1⟩ := keep_two (below_from (n := 1) hb1 (Nat.le_refl _)); have Hb1 := Lib.hid (Hb.out.trans ((below_from (n := 1) hb1 (Nat.le_refl _)).mono Hb.out.size)); clear hb1) | (go_at_call 75; refine (HD.out _).mono ?_; rintro e w2 ⟨rfl, hb2⟩; have Hb2 := Lib.hid (Hb1.out.trans (hb2.mono Hb1.out.size)); clear hb2)
    all_goals go_wp2
    all_goals go_ret
    all_goals exact ⟨ret_sl (by unfold insL; rw [Hh.out]; simp), Hb2.out⟩
theorem specInstrText_any (n a : Int) (w : World) : Calls Tryd.prog 18 #[.agg #[.int .i64 n, .int .i64 a]] w fun e w' => e = .returned (.tuple #[.string ⟨(txtF n a).toArray⟩, .int .i64 (txtC n a)]) ∧ Below w.heap.size w w' := by
  have Hb := Lib.hid ((Below.refl w.heap.size w).alloc (Nat.le_refl _) (.cells #[.int .i64 n, .int .i64 a] 25))
  cases ho : okB n a
  · have H := Lib.hid (txt_out ho)
    have HI := Lib.hid (ho ▸ l02OK_any n a)
    clear ho
    go_enter Tryd.func18, Tryd.ntmps18
    go_wp2_with fail
    refine (HI.out _).mono ?_
    rintro e w1 ⟨rfl, hb1⟩
    have Hb1 := Lib.hid (Hb.out.trans (hb1.mono Hb.out.size))
    clear hb1
    go_wp2
    go_ret2
    exact ⟨ret_si (by rw [H.out.1]) (by rw [H.out.2]), Hb1.out⟩
  · obtain ⟨k, rfl, h1, h2, h3, h4⟩ := okB_nat ho
    have H := Lib.hid (txt_in ho)
    have HI := Lib.hid (ho ▸ l02OK_any (k : Int) a)
    have HT := Lib.hid (l02Text_any k a h1 h2 (by have := opLo_ge k; have := opHi_le k; omega))
    clear ho h3 h4
    go_enter Tryd.func18, Tryd.ntmps18
    go_wp2_with fail
    refine (HI.out _).mono ?_
    rintro e w1 ⟨rfl, hb1⟩
    obtain ⟨c0, c1⟩ := keep_two hb1
    have Hb1 := Lib.hid (Hb.out.trans (hb1.mono Hb.out.size))
    clear hb1
    go_wp2_with fail
    refine (HT.out _).mono ?_
    rintro e w2 ⟨rfl, hb2⟩
    have Hb2 := Lib.hid (Hb1.out.trans (hb2.mono Hb1.out.size))
    clear hb2
    go_wp2
    go_ret2
    exact ⟨ret_si (by rw [H.out.1]) (by rw [H.out.2]), Hb2.out⟩
theorem FnExactInstrText_walk (n a : Int) (w : World) (ht : OpTab w ∧ Pow10 w) : Calls Tryd.prog 9 #[.agg #[.int .i64 n, .int .i64 a]] w fun e w' => e = .returned (.bool true) ∧ Below w.heap.size w w' := by
  have Hb := Lib.hid ((Below.refl w.heap.size w).alloc (Nat.le_refl _) (.cells #[.int .i64 n, .int .i64 a] 45))
  have Ht := Lib.hid ht.1
  have Hp := Lib.hid ht.2
  clear ht
  go_enter Tryd.func9, Tryd.ntmps9
  go_wp2_with fail
  refine (toInstr_any _ _ _).mono ?_
  rintro e w1 ⟨rfl, hb1⟩
  have Ht1 := Lib.hid ((Ht.out.below Hb.out (Nat.le_refl _)).below hb1 (Nat.le_refl _))
  have Hp1 := Lib.hid ((Hp.out.below Hb.out (Nat.le_refl _)).below hb1 (Nat.le_refl _))
  have HB1 := Lib.hid hb1
  have Hb1 := Lib.hid (Hb.out.trans (hb1.mono Hb.out.size))
  clear hb1
  go_wp2_with fail
  refine (specInstrText_any _ _ _).mono ?_
  rintro e w2 ⟨rfl, hb2⟩
  obtain ⟨c0, c1⟩ := keep_two (HB1.out.trans (hb2.mono HB1.out.size))
  have Ht2 := Lib.hid (Ht1.out.below hb2 (Nat.le_refl _))
  have Hp2 := Lib.hid (Hp1.out.below hb2 (Nat.le_refl _))
  have Hb2 := Lib.hid (Hb1.out.trans (hb2.mono Hb1.out.size))
  clear hb2
  go_wp2_with fail
  refine (toInstr_any _ _ _).mono ?_
  rintro e w3 ⟨rfl, hb3⟩
  have Ht3 := Lib.hid (Ht2.out.below hb3 (Nat.le_refl _))
  have Hp3 := Lib.hid (Hp2.out.below hb3 (Nat.le_refl _))
  have Hb3 := Lib.hid (Hb2.out.trans (hb3.mono Hb2.out.size))
  clear hb3 c0 c1
  go_wp2_with fail
  refine (instrText_any _ _ _ Ht3.out Hp3.out).mono ?_
  rintro e w4 ⟨rfl, hb4⟩
  have Hb4 := Lib.hid (Hb3.out.trans (hb4.mono Hb3.out.size))
  clear hb4
  go_wp2
  go_ret
  exact ⟨rfl, Hb4.out⟩
theorem tPow : (Tryd.prog.globals[5]?).map (·.type) = some 140 := by kernel_rfl
theorem cPow : Tryd.prog.cellsOf 140 = 20 := by kernel_rfl
theorem cU64 : Tryd.prog.cellsOf 110 = 1 := by kernel_rfl
/-- What the row's list gives: the table of powers. -/
theorem pow_of {W : World} (h : laidMetH Tryd.prog [("internal/strconv.uint64pow10", Rows.laid_internal_strconv_uint64pow10)] W) : Pow10 W := by
  have h' : laidMet Tryd.prog (("internal/strconv.uint64pow10", Lib.tabData .u64 Lib.pow10Tab) :: []) W := h
  exact Lib.tabIs_of_head gPow tPow Tryd.underlying140 Tryd.underlying110 cU64 cPow h'
theorem FnExactInstrText_came (cs : Array Value) (W : World) (h : Came Tryd.prog W 45 cs.toList) (ht : OpTab W ∧ Pow10 W) : Calls Tryd.prog 9 #[.agg cs] W fun e w' => e = .returned (.bool true) ∧ Below W.heap.size W w' := by
  obtain ⟨n, a, e, _, _⟩ := came_lawInstr h
  subst e
  exact FnExactInstrText_walk n a W ht
end Go.Proofs.YtnokkkmokfojnaaDoor
