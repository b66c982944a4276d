/- FbText of spec; the exact law of FbText. -/
import Derived.Test.YtknfimadhnlpjaaDoorFbText
import Derived.Test.YtknfimadhnlpjaaDoorFbLaw
import Derived.Deep.RegionWith
import Derived.Deep.RegionHeld3
namespace Go.Proofs.YtknfimadhnlpjaaDoor
open Go.ChangeShapes Go.WideShapes Go.ChangeAt Go.RowKit
abbrev nmO : Obj := .cells #[.string ⟨#[116, 105, 109, 101, 114]⟩, .string ⟨#[99, 111, 117, 110, 116, 101, 114]⟩, .string ⟨#[101, 100, 103, 101]⟩, .string ⟨#[108, 97, 116, 99, 104]⟩] 9
theorem l03Names_any (w : World) : Calls Tryd.prog 43 #[] w fun e w' => e = .returned (.slice (some ⟨w.heap.size, 0, none⟩) 4 4) ∧ w' = w.alloc nmO := by
  go_enter Tryd.func43, Tryd.ntmps43
  go_wp2
  go_ret
  exact ⟨rfl, rfl⟩
set_option maxHeartbeats 1000000 in
theorem l03Text_3 (o : Bool) (w : World) : Calls Tryd.prog 33 #[fbE 3 o 0 0] w fun e w' => e = .returned (.string ⟨(fbL 3 o 0 0).toArray⟩) ∧ Below w.heap.size w w' := by
  cases o
  all_goals
    go_enter Tryd.func33, Tryd.ntmps33
    go_wp2
    go_region_with (go_at_call 43; refine (l03Names_any _).mono ?_; rintro e w1 ⟨rfl, rfl⟩)
    all_goals
      go_wp2
      go_ret
      exact ⟨fb_rl (by simp [fbL, fbNm, fbSt, fbCt]), fb_dn (fb_b2 _ _ w) _⟩
set_option maxHeartbeats 1000000 in
theorem l03Text_4 (o : Bool) (w : World) : Calls Tryd.prog 33 #[fbE 4 o 0 0] w fun e w' => e = .returned (.string ⟨(fbL 4 o 0 0).toArray⟩) ∧ Below w.heap.size w w' := by
  cases o
  all_goals
    go_enter Tryd.func33, Tryd.ntmps33
    go_wp2
    go_region_with (go_at_call 43; refine (l03Names_any _).mono ?_; rintro e w1 ⟨rfl, rfl⟩)
    all_goals
      go_wp2
      go_ret
      exact ⟨fb_rl (by simp [fbL, fbNm, fbSt, fbCt]), fb_dn (fb_b2 _ _ w) _⟩
set_option maxHeartbeats 1000000 in
theorem l03Text_2 (o : Bool) (c : Int) (hc : 0 ≤ c ∧ c ≤ 2147483647) (w : World) : Calls Tryd.prog 33 #[fbE 2 o 0 c] w fun e w' => e = .returned (.string ⟨(fbL 2 o 0 c).toArray⟩) ∧ Below w.heap.size w w' := by
  have HC := Lib.hid (dig_any c (by omega) (by omega))
  have l2 := Lib.itoa_length_le c (by omega) (by omega)
  have Hb := Lib.hid (fb_b2 (fbO 2 o 0 c) nmO w)
  cases o
  all_goals
    go_enter Tryd.func33, Tryd.ntmps33
    go_wp2
    go_region_with (go_at_call 43; refine (l03Names_any _).mono ?_; rintro e w1 ⟨rfl, rfl⟩)
    all_goals
      go_wp2_with fail
      refine (HC.out _).mono ?_
      rintro e w2 ⟨rfl, hb2⟩
      have hb2' : Below ((w.alloc (fbO 2 _ 0 c)).alloc nmO).heap.size ((w.alloc (fbO 2 _ 0 c)).alloc nmO) w2 := ⟨hb2.os, hb2.tape, hb2.output, hb2.size, hb2.block⟩
      have Hb2 := Lib.hid (Hb.out.trans (hb2'.mono Hb.out.size))
      clear hb2 hb2'
      go_wp2
      go_ret
      exact ⟨fb_rl (by simp [fbL, fbNm, fbSt, fbCt]), Hb2.out⟩
theorem dig_at (n : Int) (h0 : 0 ≤ n) (h1 : n ≤ 2147483647) (w W1 : World) (b : Nat) (x y : Value) (hb : Below w.heap.size w W1) (h2 : W1.cell? ⟨b, 2, none⟩ = some x) (h3 : W1.cell? ⟨b, 3, none⟩ = some y) :
    Calls Tryd.prog 44 #[.int .i64 n] W1 fun e W2 => e = .returned (.string ⟨(Lib.itoa n).toArray⟩) ∧ Below w.heap.size w W2 ∧ W2.cell? ⟨b, 2, none⟩ = some x ∧ W2.cell? ⟨b, 3, none⟩ = some y := by
  have hlt : b < W1.heap.size := cells_lt h2
  refine (dig_any n (by omega) (by omega) W1).mono ?_
  rintro e W2 ⟨rfl, g⟩
  exact ⟨rfl, hb.trans (g.mono hb.size), (g.cell (p := ⟨b, 2, none⟩) hlt).trans h2, (g.cell (p := ⟨b, 3, none⟩) hlt).trans h3⟩
theorem l03_rs {a b : ByteArray} (h : a = b) : Ending.returned (.string a) = .returned (.string b) := by rw [h]
theorem l03_end (X Y : List UInt8) (o : Bool) (s c : Int) (hX : Lib.itoa s = X) (hY : Lib.itoa c = Y) (nm : ByteArray) (h : nm = ⟨(fbNm 1 ++ (if o = true then [32, 111, 110] else [32, 111, 102, 102])).toArray⟩) (sx sy : ByteArray) (gx : sx = ⟨X.toArray⟩) (gy : sy = ⟨Y.toArray⟩) :
    nm ++ (((⟨#[32, 115, 116, 97, 114, 116, 32]⟩ ++ sx) ++ ⟨#[32, 99, 111, 117, 110, 116, 32]⟩) ++ sy) = ⟨(fbL 1 o s c).toArray⟩ := by
  subst h gx gy
  apply ByteArray.ext
  simp [fbL, fbSt, fbCt, hX, hY]
set_option maxHeartbeats 1000000 in
theorem l03Text_1 (o : Bool) (s c : Int) (hs : 0 ≤ s ∧ s ≤ 2147483647) (hc : 0 ≤ c ∧ c ≤ 2147483647) (w : World) : Calls Tryd.prog 33 #[fbE 1 o s c] w fun e w' => e = .returned (.string ⟨(fbL 1 o s c).toArray⟩) ∧ Below w.heap.size w w' := by
  have HS := Lib.hid (dig_at s hs.1 hs.2 w)
  have HC := Lib.hid (dig_at c hc.1 hc.2 w)
  have l1 := Lib.itoa_length_le s (by omega) (by omega)
  have l2 := Lib.itoa_length_le c (by omega) (by omega)
  have K := Lib.hid (heap_alloc2_old w (fbO 1 o s c) nmO)
  have Hb := Lib.hid (fb_b2 (fbO 1 o s c) nmO w)
  have HE := Lib.hid (fun nm h => l03_end (Lib.itoa s) (Lib.itoa c) o s c rfl rfl nm h ⟨(Lib.itoa s).toArray⟩ ⟨(Lib.itoa c).toArray⟩ rfl rfl)
  have zx : (⟨(Lib.itoa s).toArray⟩ : ByteArray).size ≤ 100 := by simp [ByteArray.size]; omega
  have zy : (⟨(Lib.itoa c).toArray⟩ : ByteArray).size ≤ 100 := by simp [ByteArray.size]; omega
  clear l1 l2
  generalize (⟨(Lib.itoa s).toArray⟩ : ByteArray) = sx at *
  generalize (⟨(Lib.itoa c).toArray⟩ : ByteArray) = sy at *
  generalize (⟨(fbL 1 o s c).toArray⟩ : ByteArray) = R at *
  clear hs hc
  have n4 : ¬ 9223372036854775807 < 7 + sx.size := by omega
  have n5 : ¬ 9223372036854775807 < 7 + sx.size + 7 := by omega
  have n9 : ¬ 9223372036854775807 < 7 + sx.size + 7 + sy.size := by omega
  cases o
  · go_enter Tryd.func33, Tryd.ntmps33
    go_wp2
    go_region_with (go_at_call 43; refine (l03Names_any _).mono ?_; rintro e w1 ⟨rfl, rfl⟩)
    all_goals
      go_wp2
      have K' : Hid (((w.alloc (fbO 1 _ s c)).alloc nmO).drew.heap[w.heap.size]? = some (fbO 1 _ s c)) := K
      have Hb' : Below w.heap.size w (((w.alloc (fbO 1 _ s c)).alloc nmO).drew) := fb_dn Hb.out 1
      clear Hb
      generalize (((w.alloc (fbO 1 _ s c)).alloc nmO).drew) = W at *
      obtain ⟨c0, c1, c2, c3⟩ := fb_cells K'.out
      clear c0 c1
      obtain ⟨NM, hNM, zNM⟩ : ∃ NM : ByteArray, NM = (⟨#[116, 105, 109, 101, 114]⟩ : ByteArray) ++ ⟨#[32, 111, 102, 102]⟩ ∧ NM.size ≤ 20 := ⟨_, rfl, by decide⟩
      rw [← hNM]
      have HNM := Lib.hid hNM
      have n10 : ¬ 9223372036854775807 < NM.size + (7 + sx.size + 7 + sy.size) := by omega
      clear hNM
      go_region_held3 (fun w' => Below w.heap.size w w' ∧ w'.cell? ⟨w.heap.size, 2, none⟩ = some (.int .i64 s) ∧ w'.cell? ⟨w.heap.size, 3, none⟩ = some (.int .i64 c))
        (first
          | (go_split_ands; refine ⟨?_, ?_, ?_⟩ <;> first | assumption | (refine fb_dn ?_ 1; assumption))
          | go_keep)
        (first
          | (go_at_call 44; go_split_ands; (with_reducible refine (HS.out _ _ _ _ (by assumption) (by assumption) (by assumption)).mono ?_); rintro e w2 ⟨rfl, hb2, g2, g3⟩)
          | (go_at_call 44; go_split_ands; (with_reducible refine (HC.out _ _ _ _ (by assumption) (by assumption) (by assumption)).mono ?_); rintro e w3 ⟨rfl, hb3, g2, g3⟩))
      all_goals
        go_wp2
        go_ret
        exact ⟨l03_rs (HE.out NM (by rw [HNM.out]; apply ByteArray.ext; simp [fbNm])), by assumption⟩
  · go_enter Tryd.func33, Tryd.ntmps33
    go_wp2
    go_region_with (go_at_call 43; refine (l03Names_any _).mono ?_; rintro e w1 ⟨rfl, rfl⟩)
    all_goals
      go_wp2
      have K' : Hid (((w.alloc (fbO 1 _ s c)).alloc nmO).drew.heap[w.heap.size]? = some (fbO 1 _ s c)) := K
      have Hb' : Below w.heap.size w (((w.alloc (fbO 1 _ s c)).alloc nmO).drew) := fb_dn Hb.out 1
      clear Hb
      generalize (((w.alloc (fbO 1 _ s c)).alloc nmO).drew) = W at *
      obtain ⟨c0, c1, c2, c3⟩ := fb_cells K'.out
      clear c0 c1
      obtain ⟨NM, hNM, zNM⟩ : ∃ NM : ByteArray, NM = (⟨#[116, 105, 109, 101, 114]⟩ : ByteArray) ++ ⟨#[32, 111, 110]⟩ ∧ NM.size ≤ 20 := ⟨_, rfl, by decide⟩
      rw [← hNM]
      have HNM := Lib.hid hNM
      have n10 : ¬ 9223372036854775807 < NM.size + (7 + sx.size + 7 + sy.size) := by omega
      clear hNM
      go_region_held3 (fun w' => Below w.heap.size w w' ∧ w'.cell? ⟨w.heap.size, 2, none⟩ = some (.int .i64 s) ∧ w'.cell? ⟨w.heap.size, 3, none⟩ = some (.int .i64 c))
        (first
          | (go_split_ands; refine ⟨?_, ?_, ?_⟩ <;> first | assumption | (refine fb_dn ?_ 1; assumption))
          | go_keep)
        (first
          | (go_at_call 44; go_split_ands; (with_reducible refine (HS.out _ _ _ _ (by assumption) (by assumption) (by assumption)).mono ?_); rintro e w2 ⟨rfl, hb2, g2, g3⟩)
          | (go_at_call 44; go_split_ands; (with_reducible refine (HC.out _ _ _ _ (by assumption) (by assumption) (by assumption)).mono ?_); rintro e w3 ⟨rfl, hb3, g2, g3⟩))
      all_goals
        go_wp2
        go_ret
        exact ⟨l03_rs (HE.out NM (by rw [HNM.out]; apply ByteArray.ext; simp [fbNm])), by assumption⟩
theorem l03Text_any (k : Int) (o : Bool) (s c : Int) (h : fbOKB k o s c = true) (w : World) : Calls Tryd.prog 33 #[fbE k o s c] w fun e w' => e = .returned (.string ⟨(fbL k o s c).toArray⟩) ∧ Below w.heap.size w w' := by
  rcases fb_kinds h with ⟨rfl, hs, hc⟩ | ⟨rfl, rfl, hc⟩ | ⟨rfl, rfl, rfl⟩ | ⟨rfl, rfl, rfl⟩
  · exact l03Text_1 o s c hs hc w
  · exact l03Text_2 o c hc w
  · exact l03Text_3 o w
  · exact l03Text_4 o w
theorem specFbText_any (k : Int) (o : Bool) (s c : Int) (w : World) : Calls Tryd.prog 18 #[fbE k o s c] w fun e w' => e = .returned (.tuple #[.string ⟨(fbTF k o s c).toArray⟩, .int .i64 (fbTC k o s c)]) ∧ Below w.heap.size w w' := by
  have Hb := Lib.hid (fb_b0 k o s c w)
  cases ho : fbOKB k o s c
  · have H := Lib.hid (fbText_out ho)
    have HK := Lib.hid ho
    clear ho
    go_enter Tryd.func18, Tryd.ntmps18
    go_wp2_with fail
    refine (specFbOK_is HK.out _).mono ?_
    rintro e w1 ⟨rfl, hb1⟩
    have Hb1 := Lib.hid (Hb.out.trans (hb1.mono Hb.out.size))
    clear hb1
    go_wp2
    go_ret2
    exact ⟨fb_rt (by rw [H.out.1]) (by rw [H.out.2]), Hb1.out⟩
  · have H := Lib.hid (fbText_in ho)
    have HK := Lib.hid ho
    clear ho
    go_enter Tryd.func18, Tryd.ntmps18
    go_wp2_with fail
    refine (specFbOK_is HK.out _).mono ?_
    rintro e w1 ⟨rfl, hb1⟩
    have Hb1 := Lib.hid (Hb.out.trans (hb1.mono Hb.out.size))
    obtain ⟨c0, c1, c2, c3⟩ := fb_cells (fb_keep hb1)
    clear hb1
    go_wp2_with fail
    refine (l03Text_any k o s c HK.out _).mono ?_
    rintro e w2 ⟨rfl, hb2⟩
    have Hb2 := Lib.hid (Hb1.out.trans (hb2.mono Hb1.out.size))
    clear hb2
    go_wp2
    go_ret2
    exact ⟨fb_rt (by rw [H.out.1]) (by rw [H.out.2]), Hb2.out⟩
theorem FnExactFbText_walk (k : Int) (o : Bool) (s c : Int) (w : World) (ht : FbTab w) (hp : Pow10 w) : Calls Tryd.prog 10 #[fbE k o s c] w fun e w' => e = .returned (.bool true) ∧ Below w.heap.size w w' := by
  have Hb := Lib.hid (lf_b0 k o s c w)
  have Ht := Lib.hid ht
  have Hp := Lib.hid hp
  have HX := Lib.hid (fun w => specFbText_any k o s c w)
  have HI := Lib.hid (fun w ht hp => fbText_any k o s c w ht hp)
  clear ht hp
  generalize fbTF k o s c = X at *
  generalize fbTC k o s c = Y at *
  go_enter Tryd.func10, Tryd.ntmps10
  go_wp2_with fail
  refine (toFb_any _ _ _ _ _).mono ?_
  rintro e w1 ⟨rfl, hb1⟩
  have K1 := Lib.hid (fb_keep hb1)
  have Hb1 := Lib.hid (Hb.out.trans (hb1.mono Hb.out.size))
  have hz1 := hb1.size
  clear hb1
  go_wp2_with fail
  refine (HX.out _).mono ?_
  rintro e w2 ⟨rfl, hb2⟩
  have K2 := Lib.hid ((hb2.block w.heap.size (by simp at hz1; omega)).trans K1.out)
  have Hb2 := Lib.hid (Hb1.out.trans (hb2.mono Hb1.out.size))
  obtain ⟨c0, c1, c2, c3⟩ := fb_cells K2.out
  clear hb2
  go_wp2_with fail
  refine (toFb_any _ _ _ _ _).mono ?_
  rintro e w3 ⟨rfl, hb3⟩
  have Hb3 := Lib.hid (Hb2.out.trans (hb3.mono Hb2.out.size))
  clear hb3 c0 c1 c2 c3
  go_wp2_with fail
  refine (HI.out _ (Ht.out.below Hb3.out (Nat.le_refl _)) (Hp.out.below Hb3.out (Nat.le_refl _))).mono ?_
  rintro e w4 ⟨rfl, hb4⟩
  have Hb4 := Lib.hid (Hb3.out.trans (hb4.mono Hb3.out.size))
  clear hb4
  go_wp2
  go_ret
  exact ⟨rfl, Hb4.out⟩
theorem FnExactFbText_came (cs : Array Value) (W : World) (h : Came Tryd.prog W 38 cs.toList) (ht : FbTab W ∧ Pow10 W) : Calls Tryd.prog 10 #[.agg cs] W fun e w' => e = .returned (.bool true) ∧ Below W.heap.size W w' := by
  obtain ⟨k, o, s, c, e, _, _, _⟩ := came_fb h
  subst e
  exact FnExactFbText_walk k o s c W ht.1 ht.2
end Go.Proofs.YtknfimadhnlpjaaDoor
