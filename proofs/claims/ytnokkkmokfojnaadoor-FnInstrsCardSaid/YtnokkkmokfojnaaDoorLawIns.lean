/- The law: instructions are read back from their texts, operations from their names. -/
import Derived.Test.YtnokkkmokfojnaaDoorLine
import Derived.Test.YtnokkkmokfojnaaDoorRILaw
import Derived.Deep.RegionHeld3
import Derived.Outline
namespace Go.Proofs.YtnokkkmokfojnaaDoor
open Go.ChangeShapes Go.WideShapes Go.ChangeAt Go.RowKit Go.PlainAid
theorem wgo_cut : ∀ (l cur r : List UInt8), wgo cur (l ++ 32 :: r) = wgo cur l ++ wgo [] r
  | [], cur, r => by
    rw [List.nil_append, wgo, wgo, if_pos rfl]
    split <;> rfl
  | c :: l, cur, r => by
    rw [List.cons_append, wgo, wgo]
    split
    · split
      · exact wgo_cut l [] r
      · rw [wgo_cut l [] r]; rfl
    · exact wgo_cut l (cur ++ [c]) r
theorem words_wide (l : List UInt8) : wordsL (32 :: (l ++ [32, 32])) = wordsL l := by
  have h1 : wordsL (32 :: (l ++ [32, 32])) = wgo [] ([] ++ 32 :: (l ++ 32 :: [32])) := rfl
  rw [h1, wgo_cut, wgo_cut]
  show [] ++ (wgo [] l ++ []) = wgo [] l
  simp
theorem words_more (l : List UInt8) : wordsL (l ++ [32, 49, 32, 49]) = wordsL l ++ [[49], [49]] := by
  have h1 : wordsL (l ++ [32, 49, 32, 49]) = wgo [] (l ++ 32 :: [49, 32, 49]) := rfl
  rw [h1, wgo_cut]
  rfl
theorem rI_wide {k : Nat} {a : Int} {s : ByteArray} (h : okB (k : Int) a = true) (hs : s.data.toList = 32 :: (insL k a ++ [32, 32])) (hl : s.size ≤ 65536) : RI s k a 0 := by
  refine .inr ⟨by omega, .inl ⟨rfl, k, rfl, h, ?_⟩⟩
  have := (okB_yes h).1
  rw [hs, words_wide, words_insL this.1 this.2]
theorem rI_more {k : Nat} {a : Int} {s : ByteArray} (h : okB (k : Int) a = true) (hs : s.data.toList = insL k a ++ [32, 49, 32, 49]) (hl : s.size ≤ 65536) : RI s 0 0 3 := by
  refine .inr ⟨by omega, res_long ?_⟩
  have := (okB_yes h).1
  rw [hs, words_more, words_insL this.1 this.2]
  unfold wl
  split <;> simp
theorem blk_lt {w : World} {b : Nat} {o : Obj} (h : w.heap[b]? = some o) : b < w.heap.size := by
  rcases Nat.lt_or_ge b w.heap.size with g | g
  · exact g
  · rw [Array.getElem?_eq_none g] at h; cases h
theorem tk_dec : ∀ k : Fin 27, 1 ≤ k.1 → 0 < opTk k.1 := by decide
theorem tk_pos {k : Nat} (h1 : 1 ≤ k) (h2 : k ≤ 26) : 0 < opTk k := tk_dec ⟨k, by omega⟩ h1
set_option maxRecDepth 100000 in
set_option maxHeartbeats 8000000 in
theorem FnInstrs_came (a : Option Addr) (n c : Nat) (a1 : Option Addr) (n1 c1 : Nat) (W : World) (h0 : Came Tryd.prog W 22 [.slice a n c]) (h1 : Came Tryd.prog W 22 [.slice a1 n1 c1]) (hf : OpTab W ∧ Pow10 W ∧ StrErr W) :
    Calls Tryd.prog 3 #[.slice a n c, .slice a1 n1 c1] W fun e w' => e = .returned (.bool true) ∧ Below W.heap.size W w' := by
  obtain ⟨hT, hP, hE⟩ := hf
  have B0 := Lib.hid (came_bytes h0)
  have B1 := Lib.hid (came_bytes h1)
  have hn := B0.out.1
  have hn1 := B1.out.1
  unfold maxLen at hn hn1
  have HT := Lib.hid hT
  have HP := Lib.hid hP
  have HE := Lib.hid hE
  have HR := Lib.hid (fun (s : ByteArray) w (hs : s.size ≤ 1000) hb => readInstr_any s (by unfold maxLen; omega) w (OpTab.below HT.out hb (Nat.le_refl _)) (Pow10.below HP.out hb (Nat.le_refl _)) (StrErr.below HE.out hb (Nat.le_refl _)))
  clear hT hP hE h0 h1
  by_cases l0 : 1048576 < n
  · go_enter Tryd.func3, Tryd.ntmps3
    go_wp2
    go_ret
    exact ⟨rfl, Below.refl _ _⟩
  by_cases l1 : 1048576 < n1
  · go_enter Tryd.func3, Tryd.ntmps3
    go_wp2
    go_ret
    exact ⟨rfl, Below.refl _ _⟩
  go_enter Tryd.func3, Tryd.ntmps3
  go_wp2_with fail
  refine (specInstrLine_any a n c W B0.out).mono ?_
  rintro e w1 ⟨t, rfl, ht, hb1⟩
  have Hb1 := Lib.hid hb1
  clear hb1
  go_wp2_with fail
  refine (HR.out t w1 (by omega) Hb1.out).mono ?_
  rintro e w2 ⟨x, y, d, rfl, hr, hb2⟩
  have Hr := Lib.hid hr
  have Hb2 := Lib.hid ((Hb1.out.trans (hb2.mono Hb1.out.size)).alloc (by have := Hb1.out.size; have := hb2.size; omega) (.cells #[.int .i64 x, .int .i64 y] 25))
  clear hb2 hr
  go_wp2_with fail
  refine (specReadInstr_any t (by unfold maxLen; omega) _).mono ?_
  rintro e w3 ⟨x', y', d', rfl, hr3, hb3⟩
  obtain ⟨rfl, rfl, rfl⟩ := rI_one Hr.out hr3
  have K1 := (hb3.block w2.heap.size (by simp)).trans (heap_alloc_new w2 _)
  have hz3 : w2.heap.size < w3.heap.size := by have := hb3.size; simp at this; omega
  obtain ⟨c0, c1', f0, f1⟩ := blk_cs2 K1
  have hne : w2.heap.size ≠ w3.heap.size := by omega
  have Hb3 := Lib.hid (Hb2.out.trans (hb3.mono Hb2.out.size))
  have Hb4 := Lib.hid (Hb3.out.alloc Hb3.out.size (.cells #[.int .i64 x, .int .i64 y] 25))
  have hcc : (d != d) = false := by simp
  have hcd : (d == d) = true := by simp
  have hxx : (x == x) = true := by simp
  have hyy : (y == y) = true := by simp
  clear hb3 hr3 Hr K1
  go_wp2_with fail
  refine (specInstrDrawn_any a1 n1 c1 _ (B1.out.bel Hb4.out Hb4.out.size)).mono ?_
  rintro e w4 ⟨k0, v, rfl, hok, hb4⟩
  obtain ⟨k, rfl, k1, k2, _, _⟩ := okB_nat hok
  have HI := Lib.hid (fun w (hb : Below W.heap.size W w) => instrText_any (k : Int) v w (OpTab.below HT.out hb (Nat.le_refl _)) (Pow10.below HP.out hb (Nat.le_refl _)))
  have HS := Lib.hid (fun w => specInstrText_any (k : Int) v w)
  rw [(txt_in hok).1, (txt_in hok).2] at HI HS
  have hil := insL_len' hok
  have HW := Lib.hid (fun (s : ByteArray) (hs : s.data.toList = 32 :: (insL k v ++ [32, 32])) => rI_wide hok hs (by rw [Lib.size_eq, hs]; simp; omega))
  have HM := Lib.hid (fun (s : ByteArray) (hs : s.data.toList = insL k v ++ [32, 49, 32, 49]) => rI_more hok hs (by rw [Lib.size_eq, hs]; simp; omega))
  have HC := Lib.hid (fun w (hb : Below W.heap.size W w) => costOf_any (k : Int) w (OpTab.below HT.out hb (Nat.le_refl _)))
  have HD := Lib.hid (fun w => specCostOf_any (k : Int) w)
  rw [(costF_in k1 k2).1, (costF_in k1 k2).2] at HC HD
  have HN := Lib.hid (fun w (hb : Below W.heap.size W w) => opName_any (k : Int) w (OpTab.below HT.out hb (Nat.le_refl _)))
  have HSN := Lib.hid (fun w => specOpName_any (k : Int) (by omega) w)
  rw [nameF_in k1 k2] at HN HSN
  have HO := Lib.hid (fun w (hb : Below W.heap.size W w) => opOf_any (opNm k) w (OpTab.below HT.out hb (Nat.le_refl _)))
  rw [opOf_nm k1 k2] at HO
  have htk := tk_pos k1 k2
  clear hok
  have Hb5 := Lib.hid ((Hb4.out.trans (hb4.mono Hb4.out.size)).alloc (by have := Hb4.out.size; have := hb4.size; omega) (.cells #[.int .i64 (k : Int), .int .i64 v] 25))
  have K5 := Lib.hid (heap_alloc_new w4 (.cells #[.int .i64 (k : Int), .int .i64 v] 25))
  clear hb4 c0 c1' f0 f1
  generalize insL k v = X at *
  generalize opNm k = Y at *
  generalize opTk k = Z at *
  go_wp2_with fail
  refine (HI.out _ Hb5.out).mono ?_
  rintro e w6 ⟨rfl, hb6⟩
  have K6 := Lib.hid ((hb6.block w4.heap.size (by simp)).trans K5.out)
  have hz6 : w4.heap.size < w6.heap.size := by have := hb6.size; simp at this; omega
  obtain ⟨c0, c1', f0, f1⟩ := blk_cs2 K6.out
  have Hb6 := Lib.hid (Hb5.out.trans (hb6.mono Hb5.out.size))
  clear hb6
  go_wp2_with fail
  refine (HS.out _).mono ?_
  rintro e w7 ⟨rfl, hb7⟩
  have K7 := Lib.hid ((hb7.block w4.heap.size hz6).trans K6.out)
  have hz7 : w4.heap.size < w7.heap.size := by have := hb7.size; omega
  have Hb7 := Lib.hid (Hb6.out.trans (hb7.mono Hb6.out.size))
  clear hb7 c0 c1' f0 f1
  go_wp2_with fail
  refine (HR.out _ _ ?_ Hb7.out).mono ?_
  · simp [ByteArray.size_append, mk_size]; omega
  rintro e w8 ⟨x1, y1, d1, rfl, hr8, hb8⟩
  obtain ⟨rfl, rfl, rfl⟩ := rI_one hr8 (HW.out _ (by simp))
  have K8 := Lib.hid ((hb8.block w4.heap.size hz7).trans K7.out)
  have hz8 : w4.heap.size < w8.heap.size := by have := hb8.size; omega
  have Hb8 := Lib.hid ((Hb7.out.trans (hb8.mono Hb7.out.size)).alloc (by have := Hb7.out.size; have := hb8.size; omega) (.cells #[.int .i64 (k : Int), .int .i64 y1] 25))
  have L8 := Lib.hid (heap_alloc_new w8 (.cells #[.int .i64 (k : Int), .int .i64 y1] 25))
  have K8' := Lib.hid (heap_keep (o' := .cells #[.int .i64 (k : Int), .int .i64 y1] 25) K8.out)
  clear hb8 hr8
  go_wp2_with fail
  refine (HR.out _ _ ?_ Hb8.out).mono ?_
  · simp [ByteArray.size_append, mk_size]; omega
  rintro e w9 ⟨x2, y2, d2, rfl, hr9, hb9⟩
  obtain ⟨rfl, rfl, rfl⟩ := rI_one hr9 (HM.out _ (by simp))
  have K9 := (hb9.block w4.heap.size (by simp; omega)).trans K8'.out
  have L9 := (hb9.block w8.heap.size (by simp)).trans L8.out
  have hz9 : w8.heap.size < w9.heap.size := by have := hb9.size; simp at this; omega
  have hz9' : w4.heap.size < w9.heap.size := by omega
  have K10 := Lib.hid (heap_keep (o' := .cells #[.int .i64 0, .int .i64 0] 25) K9)
  have L10 := Lib.hid (heap_keep (o' := .cells #[.int .i64 0, .int .i64 0] 25) L9)
  have Hb9 := Lib.hid ((Hb8.out.trans (hb9.mono Hb8.out.size)).alloc (by have := Hb8.out.size; have := hb9.size; omega) (.cells #[.int .i64 0, .int .i64 0] 25))
  clear hb9 hr9
  obtain ⟨c0, c1', f0, f1⟩ := blk_cs2 K9
  clear K9 L9
  go_wp2_with fail
  clear c0 c1' f0 f1
  generalize (w9.alloc (.cells #[.int .i64 0, .int .i64 0] 25)) = wx at *
  refine (HC.out _ Hb9.out).mono ?_
  rintro e w' ⟨rfl, rfl⟩
  obtain ⟨c0, c1', f0, f1⟩ := blk_cs2 K10.out
  obtain ⟨d0, d1, g0, g1⟩ := blk_cs2 L10.out
  go_wp2_with fail
  refine (HD.out _).mono ?_
  rintro e w' ⟨rfl, rfl⟩
  have q1 : (X == X) = true := by simp
  have q2 : ((k : Int) == (k : Int)) = true := by simp
  have q3 : (y1 == y1) = true := by simp
  have q4 : (Z == Z) = true := by simp
  have q7 : (Y.toList == Y.toList) = true := by simp
  have q8 : (0 : Int) < Z := htk
  go_wp2_with fail
  clear hne hz3 hz6 hz7 hz8 hz9 hz9' hn hn1 l0 l1 ht hcc hcd hxx hyy hil htk
  have HB0 := Hb9.out
  have hlt := blk_lt K10.out
  have hlt8 := blk_lt L10.out
  go_region_held3 (fun w' => Below W.heap.size W w' ∧ w'.cell? ⟨w4.heap.size, 0, none⟩ = some (.int .i64 (k : Int)) ∧ w'.cell? ⟨w4.heap.size, 1, none⟩ = some (.int .i64 y1) ∧ w'.cell? ⟨w8.heap.size, 0, none⟩ = some (.int .i64 (k : Int)) ∧ w'.cell? ⟨w8.heap.size, 1, none⟩ = some (.int .i64 y1))
    (first
      | (go_split_ands; refine ⟨?_, ?_, ?_, ?_, ?_⟩ <;> first | assumption | (refine below_dn ?_ 1; assumption))
      | go_keep)
    (first
      | (go_at_call 22; go_split_ands; refine (HN.out _ (by assumption)).mono ?_; rintro e w' ⟨rfl, rfl⟩)
      | (go_at_call 21; go_split_ands; refine (HO.out _ (by assumption)).mono ?_; rintro e w' ⟨rfl, rfl⟩)
      | (go_at_call 23; refine (HSN.out _).mono ?_; rintro e w10 ⟨rfl, hb10⟩; have Hb10 : Below W.heap.size W w10 := ⟨hb10.os.trans HB0.os, hb10.tape.trans HB0.tape, hb10.output.trans HB0.output, Nat.le_trans HB0.size hb10.size, fun k hk => (hb10.block k (Nat.lt_of_lt_of_le hk HB0.size)).trans (HB0.block k hk)⟩; have e0 := (hb10.cell (p := ⟨w4.heap.size, 0, none⟩) hlt).trans c0; have e1 := (hb10.cell (p := ⟨w4.heap.size, 1, none⟩) hlt).trans c1'; have e2 := (hb10.cell (p := ⟨w8.heap.size, 0, none⟩) hlt8).trans d0; have e3 := (hb10.cell (p := ⟨w8.heap.size, 1, none⟩) hlt8).trans d1))
  all_goals go_wp2
  all_goals go_ret
  all_goals exact ⟨rfl, by assumption⟩
end Go.Proofs.YtnokkkmokfojnaaDoor
