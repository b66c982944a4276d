/- ReadInstr of impl and of spec; the law on it. -/
import Derived.Test.YtnokkkmokfojnaaDoorReadI
import Derived.Outline
namespace Go.Proofs.YtnokkkmokfojnaaDoor
open Go.ChangeShapes Go.WideShapes Go.ChangeAt Go.RowKit Go.PlainAid
def RI (s : ByteArray) (x y c : Int) : Prop := (65536 < s.size ∧ x = 0 ∧ y = 0 ∧ c = 2) ∨ (¬ 65536 < s.size ∧ ResR (wordsL s.data.toList) x y c)
theorem rI_one {s : ByteArray} {x y c x' y' c' : Int} (h : RI s x y c) (g : RI s x' y' c') : x = x' ∧ y = y' ∧ c = c' := by
  rcases h with ⟨h0, rfl, rfl, rfl⟩ | ⟨h0, h⟩ <;> rcases g with ⟨g0, rfl, rfl, rfl⟩ | ⟨g0, g⟩
  · exact ⟨rfl, rfl, rfl⟩
  · exact absurd h0 g0
  · exact absurd g0 h0
  · exact resR_one h g
def RIPost (s : ByteArray) (w : World) (e : Ending) (w' : World) : Prop :=
  ∃ x y c : Int, e = .returned (.tuple #[.agg #[.int .i64 x, .int .i64 y], .int .i64 c]) ∧ RI s x y c ∧ Below w.heap.size w w'
theorem readInstr_any (s : ByteArray) (hm : s.size ≤ maxLen) (w : World) (hT : OpTab w) (hP : Pow10 w) (hE : StrErr w) : Calls Tryd.prog 14 #[.string s] w (RIPost s w) := by
  unfold maxLen at hm
  have Hb := Lib.hid ((Below.refl w.heap.size w).alloc (Nat.le_refl _) (.cells #[.int .i64 0, .int .i64 0] 25))
  by_cases hs : 65536 < s.size
  · have H := Lib.hid (show ∀ w', Below w.heap.size w w' → RIPost s w (.returned (.tuple #[.agg #[.int .i64 0, .int .i64 0], .int .i64 2])) w' from fun w' hb => ⟨0, 0, 2, rfl, .inl ⟨hs, rfl, rfl, rfl⟩, hb⟩)
    clear hT hP hE
    go_enter Tryd.func14, Tryd.ntmps14
    go_wp2
    refine bodyPost_ret (v := .tuple #[.agg #[.int .i64 0, .int .i64 0], .int .i64 2]) (by simp [results, Tryd.results14, go_sem]) rfl ?_
    exact H.out _ Hb.out
  have H := Lib.hid (show ∀ w' x y c, ResR (wordsL s.data.toList) x y c → Below w.heap.size w w' → RIPost s w (.returned (.tuple #[.agg #[.int .i64 x, .int .i64 y], .int .i64 c])) w' from fun w' x y c h hb => ⟨x, y, c, rfl, .inr ⟨hs, h⟩, hb⟩)
  have HT := Lib.hid hT
  have HP := Lib.hid hP
  have HE := Lib.hid hE
  have HW := Lib.hid (wordsOf_any s (by omega))
  have hwl := wordsB_len s
  have ht := words_total s.data.toList
  rw [← Lib.size_eq] at ht
  have HL := Lib.hid (wordsB_list s)
  have HI := Lib.hid (fun a c w hz hc hT hP hE => instrOf_any (wordsB s) a c (by rw [wordsB_list]; exact words_bare _) (by omega) (by rw [wordsB_list]; omega) hc w hz hT hP hE)
  clear hT hP hE
  generalize wordsB s = bs at *
  go_enter Tryd.func14, Tryd.ntmps14
  go_wp2_with fail
  refine (HW.out _).mono ?_
  rintro e w1 ⟨A, rfl, ho1, hb1⟩
  have Hb1 := Lib.hid (Hb.out.trans (hb1.mono Hb.out.size))
  have HB1 := Lib.hid hb1
  have Ho1 := Lib.hid (lies_own ho1)
  clear ho1 hb1
  go_wp2_with fail
  refine (HI.out _ _ _ Ho1.out (Nat.le_refl _) (HT.out.below Hb1.out (Nat.le_refl _)) (HP.out.below Hb1.out (Nat.le_refl _)) (HE.out.below Hb1.out (Nat.le_refl _))).mono ?_
  rintro e w2 ⟨x, y, c, rfl, hr, hb2⟩
  rw [HL.out] at hr
  have Hb2 := Lib.hid (Hb1.out.trans (hb2.mono Hb1.out.size))
  obtain ⟨c0, c1⟩ := keep_two (HB1.out.trans (hb2.mono HB1.out.size))
  obtain ⟨f0, f1⟩ := keep_free2 (HB1.out.trans (hb2.mono HB1.out.size))
  have hz := Hb2.out.size
  have HR := Lib.hid hr
  clear hb2 hr
  go_wp2
  refine bodyPost_ret (v := .tuple #[.agg #[.int .i64 x, .int .i64 y], .int .i64 c]) (by simp [results, Tryd.results14, go_sem, c0, c1]) rfl ?_
  exact H.out _ _ _ _ HR.out ((Hb2.out.setCell (p := ⟨w.heap.size, 0, none⟩) (Nat.le_refl _) _).setCell (p := ⟨w.heap.size, 1, none⟩) (Nat.le_refl _) _)
def L02Post (s : ByteArray) (w : World) (e : Ending) (w' : World) : Prop :=
  ∃ (x y : Int) (b : Bool), e = .returned (.tuple #[.agg #[.int .i64 x, .int .i64 y], .bool b]) ∧ ResR (wordsL s.data.toList) x y (if b = true then 0 else 3) ∧ Below w.heap.size w w'
theorem res_long {ws : List (List UInt8)} (h : 2 < ws.length) : ResR ws 0 0 3 := .inr ⟨rfl, rfl, rfl, fun k a _ e => by rw [e] at h; unfold wl at h; split at h <;> simp at h⟩
theorem res_num {bs : List ByteArray} {b1 : ByteArray} (hb : bs[1]? = some b1) (h : (numOf (numD b1) (numNeg b1)).2 = false) : ResR (bs.map (·.data.toList)) 0 0 3 :=
  .inr ⟨rfl, rfl, rfl, fun k a hok e => by
    have hi := wl_two hb e
    have hs : b1 = ⟨(Lib.itoa a).toArray⟩ := bytes_inj (by rw [hi])
    rw [hs, number_itoa a (ok_rng hok).1 (ok_rng hok).2] at h
    cases h⟩
theorem num_val {bs : List ByteArray} {b1 : ByteArray} (hb : bs[1]? = some b1) (k : Nat) (a : Int) (_hok : okB (k : Int) a = true) (e : bs.map (·.data.toList) = wl k a) : (numOf (numD b1) (numNeg b1)).1 = a := by
  have hi := wl_two hb e
  have hs : b1 = ⟨(Lib.itoa a).toArray⟩ := bytes_inj (by rw [hi])
  rw [hs, number_itoa a (ok_rng _hok).1 (ok_rng _hok).2]
theorem map_inj {bs cs : List ByteArray} (h : bs.map (·.data.toList) = cs.map (·.data.toList)) : bs = cs := by
  induction bs generalizing cs with
  | nil => cases cs with | nil => rfl | cons c t => simp at h
  | cons b t ih =>
    cases cs with
    | nil => simp at h
    | cons c u =>
      simp only [List.map_cons, List.cons.injEq] at h
      rw [bytes_inj h.1, ih h.2]
theorem res_yes2 {bs : List ByteArray} {b0 : ByteArray} {k : Nat} {v : Int} (hk : opOfF b0 = (k : Int)) (hok : okB (k : Int) v = true) (h : wordsB ⟨(insL k v).toArray⟩ = bs) : ResR (bs.map (·.data.toList)) (opOfF b0) v 0 := by
  refine .inl ⟨rfl, k, hk, hok, ?_⟩
  have := (okB_yes hok).1
  rw [← h, wordsB_list, words_insL this.1 this.2]
theorem res_other2 {bs : List ByteArray} {b0 : ByteArray} {k : Nat} {v : Int} (hb : bs[0]? = some b0) (hk : opOfF b0 = (k : Int)) (_hok : okB (k : Int) v = true) (hv : ∀ (k : Nat) (a : Int), okB (k : Int) a = true → bs.map (·.data.toList) = wl k a → v = a) (h : ¬ wordsB ⟨(insL k v).toArray⟩ = bs) : ResR (bs.map (·.data.toList)) 0 0 3 :=
  .inr ⟨rfl, rfl, rfl, fun j a hj e => by
    have h1 := op_of_first hb (okB_yes hj).1 e
    rw [hk] at h1
    have hkj : k = j := by omega
    subst hkj
    have hva := hv k a hj e
    subst hva
    apply h
    apply map_inj
    have := (okB_yes hj).1
    rw [wordsB_list, e, words_insL this.1 this.2]⟩
theorem insL_len {k : Nat} {a : Int} (h : okB (k : Int) a = true) : (insL k a).length ≤ 40 := by
  have := txt_len (k : Int) a
  rwa [(txt_in h).1] at this
set_option maxRecDepth 100000 in
set_option maxHeartbeats 2000000 in
theorem l02Read_any (s : ByteArray) (hs : s.size ≤ 65536) (w : World) : Calls Tryd.prog 45 #[.string s] w (L02Post s w) := by
  have Hb := Lib.hid ((Below.refl w.heap.size w).alloc (Nat.le_refl _) (.cells #[.int .i64 0, .int .i64 0] 25))
  have HF := Lib.hid (show ∀ w' x y, ResR ((wordsB s).map (·.data.toList)) x y 0 → Below w.heap.size w w' → L02Post s w (.returned (.tuple #[.agg #[.int .i64 x, .int .i64 y], .bool true])) w' from fun w' x y h hb => ⟨x, y, true, rfl, by rw [wordsB_list] at h; exact h, hb⟩)
  have HG := Lib.hid (show ∀ w', ResR ((wordsB s).map (·.data.toList)) 0 0 3 → Below w.heap.size w w' → L02Post s w (.returned (.tuple #[.agg #[.int .i64 0, .int .i64 0], .bool false])) w' from fun w' h hb => ⟨0, 0, false, rfl, by rw [wordsB_list] at h; exact h, hb⟩)
  have HW := Lib.hid (l00Words_any s (by omega))
  have hwl := wordsB_len s
  have hms : ∀ b ∈ wordsB s, b.size ≤ 65536 := fun b hb => by
    have hm : b.data.toList ∈ (wordsB s).map (·.data.toList) := List.mem_map_of_mem hb
    have h1 := word_len hm
    have h2 := words_total s.data.toList
    rw [wordsB_list] at h1
    rw [← Lib.size_eq] at h1 h2
    omega
  unfold WordsPost at HW
  generalize wordsB s = bs at *
  by_cases n0 : bs = []
  · subst n0
    have H := Lib.hid (fun w' hb => HG.out w' res_none hb)
    go_enter Tryd.func45, Tryd.ntmps45
    go_wp2_with fail
    refine (HW.out _).mono ?_
    rintro e w1 ⟨a, c, rfl, ho1, hb1⟩
    obtain ⟨c0, c1⟩ := keep_two hb1
    obtain ⟨f0, f1⟩ := keep_free2 hb1
    have Hb1 := Lib.hid (Hb.out.trans (hb1.mono Hb.out.size))
    clear hb1 ho1
    go_wp2
    refine bodyPost_ret (v := .tuple #[.agg #[.int .i64 0, .int .i64 0], .bool false]) (by simp [results, Tryd.results45, go_sem, c0, c1]) rfl ?_
    exact H.out _ ((Hb1.out.setCell (p := ⟨w.heap.size, 0, none⟩) (Nat.le_refl _) _).setCell (p := ⟨w.heap.size, 1, none⟩) (Nat.le_refl _) _)
  have hl : 0 < bs.length := by
    rcases Nat.eq_zero_or_pos bs.length with h | h
    · exact absurd (List.eq_nil_of_length_eq_zero h) n0
    · exact h
  have q0 : ((bs.length : Int) == 0) = false := beq_eq_false_iff_ne.2 (by omega)
  by_cases n2 : 2 < bs.length
  · have H := Lib.hid (fun w' hb => HG.out w' (res_long (by rw [List.length_map]; exact n2)) hb)
    clear n0
    go_enter Tryd.func45, Tryd.ntmps45
    go_wp2_with fail
    refine (HW.out _).mono ?_
    rintro e w1 ⟨a, c, rfl, ho1, hb1⟩
    obtain ⟨c0, c1⟩ := keep_two hb1
    obtain ⟨f0, f1⟩ := keep_free2 hb1
    have Hb1 := Lib.hid (Hb.out.trans (hb1.mono Hb.out.size))
    clear hb1 ho1
    go_wp2
    refine bodyPost_ret (v := .tuple #[.agg #[.int .i64 0, .int .i64 0], .bool false]) (by simp [results, Tryd.results45, go_sem, c0, c1]) rfl ?_
    exact H.out _ ((Hb1.out.setCell (p := ⟨w.heap.size, 0, none⟩) (Nat.le_refl _) _).setCell (p := ⟨w.heap.size, 1, none⟩) (Nat.le_refl _) _)
  obtain ⟨b0, hb0⟩ : ∃ b0, bs[0]? = some b0 := ⟨_, List.getElem?_eq_getElem hl⟩
  have hs0 := hms b0 (List.mem_of_getElem? hb0)
  have HO := Lib.hid (fun w => specOpOf_any b0 (by unfold maxLen; omega) w)
  have hbl2 : bs.length ≤ 2 := by omega
  clear n0 n2
  by_cases n1 : bs.length = 1
  · have hv := fun (k : Nat) (a : Int) (hok : okB (k : Int) a = true) e => wl_one n1 hok e
    have q2 : ((bs.length : Int) == 2) = false := beq_eq_false_iff_ne.2 (by omega)
    clear n1
    cases hok : okB (opOfF b0) 0
    · have H := Lib.hid (fun w' hb => HG.out w' (res_bad hb0 hv hok) hb)
      have HK := Lib.hid (fun w => hok ▸ l02OK_any (opOfF b0) 0 w)
      have Hb0 := Lib.hid hb0
      clear hok hv hb0 hms
      go_enter Tryd.func45, Tryd.ntmps45
      go_wp2_with fail
      refine (HW.out _).mono ?_
      rintro e w1 ⟨a, c, rfl, ho1, hb1⟩
      obtain ⟨bb, oo, rfl, hbb, hcs⟩ := (lies_own ho1).open (by rw [List.length_map]; exact hl)
      have Ho1 := Lib.hid (lies_own ho1)
      have c0 := hcs 0 (.string b0) (by simp [Hb0.out])
      rw [Nat.add_zero] at c0
      have K1 := Lib.hid ((hb1.block w.heap.size (by simp)).trans (heap_alloc_new w _))
      have hz1 : w.heap.size < w1.heap.size := by have := hb1.size; simp at this; omega
      have Hb1 := Lib.hid (Hb.out.trans (hb1.mono Hb.out.size))
      clear hb1 ho1 hcs
      go_wp2_with fail
      refine (HO.out _).mono ?_
      rintro e w2 ⟨rfl, hb2⟩
      have K2 := Lib.hid ((hb2.block w.heap.size hz1).trans K1.out)
      have hz2 : w.heap.size < w2.heap.size := by have := hb2.size; omega
      have hbb2 : bb < w2.heap.size := by have := hb2.size; omega
      have d0 := (hb2.cell (p := ⟨bb, oo, none⟩) hbb).trans (by simpa using c0)
      have Hb2 := Lib.hid (Hb1.out.trans (hb2.mono Hb1.out.size))
      have Ho2 := Lib.hid (Ho1.out.below hb2 (Nat.le_refl _))
      have Ha := Lib.hid (Hb2.out.alloc (Nat.le_of_lt hz2) (.cells #[.int .i64 (opOfF b0), .int .i64 0] 25))
      have Ka := Lib.hid (heap_keep (o' := .cells #[.int .i64 (opOfF b0), .int .i64 0] 25) K2.out)
      have Oa := Lib.hid (Ho2.out.below ((Below.refl w2.heap.size w2).alloc (Nat.le_refl _) (.cells #[.int .i64 (opOfF b0), .int .i64 0] 25)) (Nat.le_refl _))
      clear hb2 c0
      go_wp2_with fail
      refine (HK.out _).mono ?_
      rintro e w3 ⟨rfl, hb3⟩
      have K3 := (hb3.block w.heap.size (by simp; omega)).trans Ka.out
      obtain ⟨m0, m1⟩ := keep_two hb3
      obtain ⟨c2, c3, f2, f3⟩ := blk_cs2 K3
      have X3 := (hb3.block w2.heap.size (by simp)).trans (heap_alloc_new w2 _)
      have hz3 : w2.heap.size < w3.heap.size := by have := hb3.size; simp at this; omega
      have O3 := Lib.hid (Oa.out.below hb3 (Nat.le_refl _))
      have Hb3 := Lib.hid (Ha.out.trans (hb3.mono Ha.out.size))
      clear hb3
      go_wp2
      refine bodyPost_ret (v := .tuple #[.agg #[.int .i64 0, .int .i64 0], .bool false]) (by simp [results, Tryd.results45, go_sem, c2, c3]) rfl ?_
      exact H.out _ ((Hb3.out.setCell (p := ⟨w.heap.size, 0, none⟩) (Nat.le_refl _) _).setCell (p := ⟨w.heap.size, 1, none⟩) (Nat.le_refl _) _)
    · obtain ⟨k, hk, k1, k2, _, _⟩ := okB_nat hok
      have HK := Lib.hid (fun w => hok ▸ l02OK_any (opOfF b0) 0 w)
      have hok2 := hok
      rw [hk] at hok2
      have HT := Lib.hid (fun w => hk ▸ l02Text_any k 0 k1 k2 (ok_rng hok2) w)
      have hil := insL_len hok2
      have HV := Lib.hid (fun w => l00Words_any ⟨(insL k 0).toArray⟩ (by rw [mk_size]; omega) w)
      unfold WordsPost at HV
      have HS := Lib.hid (fun a b c d w hz hy => l00SameTexts_any (wordsB ⟨(insL k 0).toArray⟩) bs a b c d (by have := wordsB_len ⟨(insL k 0).toArray⟩; rw [mk_size] at this; omega) w hz hy)
      by_cases hw : wordsB ⟨(insL k 0).toArray⟩ = bs
      · have H := Lib.hid (fun w' hb => HF.out w' _ _ (res_yes2 hk hok2 hw) hb)
        rw [decide_eq_true hw] at HS
        have Hb0 := Lib.hid hb0
        clear hok hok2 hv hb0 hms hw hk
        generalize wordsB ⟨(insL k 0).toArray⟩ = cs at *
        generalize insL k 0 = X at *
        go_enter Tryd.func45, Tryd.ntmps45
        go_wp2_with fail
        refine (HW.out _).mono ?_
        rintro e w1 ⟨a, c, rfl, ho1, hb1⟩
        obtain ⟨bb, oo, rfl, hbb, hcs⟩ := (lies_own ho1).open (by rw [List.length_map]; exact hl)
        have Ho1 := Lib.hid (lies_own ho1)
        have c0 := hcs 0 (.string b0) (by simp [Hb0.out])
        rw [Nat.add_zero] at c0
        have K1 := Lib.hid ((hb1.block w.heap.size (by simp)).trans (heap_alloc_new w _))
        have hz1 : w.heap.size < w1.heap.size := by have := hb1.size; simp at this; omega
        have Hb1 := Lib.hid (Hb.out.trans (hb1.mono Hb.out.size))
        clear hb1 ho1 hcs
        go_wp2_with fail
        refine (HO.out _).mono ?_
        rintro e w2 ⟨rfl, hb2⟩
        have K2 := Lib.hid ((hb2.block w.heap.size hz1).trans K1.out)
        have hz2 : w.heap.size < w2.heap.size := by have := hb2.size; omega
        have hbb2 : bb < w2.heap.size := by have := hb2.size; omega
        have d0 := (hb2.cell (p := ⟨bb, oo, none⟩) hbb).trans (by simpa using c0)
        have Hb2 := Lib.hid (Hb1.out.trans (hb2.mono Hb1.out.size))
        have Ho2 := Lib.hid (Ho1.out.below hb2 (Nat.le_refl _))
        have Ha := Lib.hid (Hb2.out.alloc (Nat.le_of_lt hz2) (.cells #[.int .i64 (opOfF b0), .int .i64 0] 25))
        have Ka := Lib.hid (heap_keep (o' := .cells #[.int .i64 (opOfF b0), .int .i64 0] 25) K2.out)
        have Oa := Lib.hid (Ho2.out.below ((Below.refl w2.heap.size w2).alloc (Nat.le_refl _) (.cells #[.int .i64 (opOfF b0), .int .i64 0] 25)) (Nat.le_refl _))
        clear hb2 c0
        go_wp2_with fail
        refine (HK.out _).mono ?_
        rintro e w3 ⟨rfl, hb3⟩
        have K3 := (hb3.block w.heap.size (by simp; omega)).trans Ka.out
        obtain ⟨m0, m1⟩ := keep_two hb3
        obtain ⟨c2, c3, f2, f3⟩ := blk_cs2 K3
        have X3 := (hb3.block w2.heap.size (by simp)).trans (heap_alloc_new w2 _)
        have hz3 : w2.heap.size < w3.heap.size := by have := hb3.size; simp at this; omega
        have O3 := Lib.hid (Oa.out.below hb3 (Nat.le_refl _))
        have Hb3 := Lib.hid (Ha.out.trans (hb3.mono Ha.out.size))
        clear hb3
        have K3h := Lib.hid K3
        have X3h := Lib.hid X3
        clear c2 c3 f2 f3 K3 X3
        go_wp2_with fail
        refine (HT.out _).mono ?_
        rintro e w4 ⟨rfl, hb4⟩
        have K4 := Lib.hid ((hb4.block w.heap.size (by omega)).trans K3h.out)
        have X4 := Lib.hid ((hb4.block w2.heap.size hz3).trans X3h.out)
        have hz4 : w2.heap.size < w4.heap.size := by have := hb4.size; omega
        have O4 := Lib.hid (O3.out.below hb4 (Nat.le_refl _))
        have Hb4 := Lib.hid (Hb3.out.trans (hb4.mono Hb3.out.size))
        clear hb4 m0 m1
        go_wp2_with fail
        refine (HV.out _).mono ?_
        rintro e w5 ⟨a5, c5, rfl, ho5, hb5⟩
        have O5 := Lib.hid (lies_own ho5)
        have O6 := Lib.hid (O4.out.below hb5 (Nat.le_refl _))
        have K5 := Lib.hid ((hb5.block w.heap.size (by omega)).trans K4.out)
        have X5 := Lib.hid ((hb5.block w2.heap.size hz4).trans X4.out)
        have hz5 : w2.heap.size < w5.heap.size := by have := hb5.size; omega
        have Hb5 := Lib.hid (Hb4.out.trans (hb5.mono Hb4.out.size))
        clear hb5 ho5
        go_wp2_with fail
        refine (HS.out _ _ _ _ _ O5.out O6.out).mono ?_
        rintro e w6 ⟨rfl, hb6⟩
        have K6 := (hb6.block w.heap.size (by omega)).trans K5.out
        have X6 := (hb6.block w2.heap.size hz5).trans X5.out
        have Hb6 := Lib.hid (Hb5.out.trans (hb6.mono Hb5.out.size))
        clear hb6
        obtain ⟨c2, c3, f2, f3⟩ := blk_cs2 K6
        obtain ⟨d2, d3, g2, g3⟩ := blk_cs2 X6
        have hne : w.heap.size ≠ w2.heap.size := by omega
        clear K6 X6
        go_wp2
        refine bodyPost_ret (v := .tuple #[.agg #[.int .i64 (opOfF b0), .int .i64 0], .bool true]) (by simp [results, Tryd.results45, go_sem, c2, c3]) rfl ?_
        exact H.out _ ((Hb6.out.setCell (p := ⟨w.heap.size, 0, none⟩) (Nat.le_refl _) _).setCell (p := ⟨w.heap.size, 1, none⟩) (Nat.le_refl _) _)
      · have H := Lib.hid (fun w' hb => HG.out w' (res_other2 hb0 hk hok2 hv hw) hb)
        rw [decide_eq_false hw] at HS
        have Hb0 := Lib.hid hb0
        clear hok hok2 hv hb0 hms hw hk
        generalize wordsB ⟨(insL k 0).toArray⟩ = cs at *
        generalize insL k 0 = X at *
        go_enter Tryd.func45, Tryd.ntmps45
        go_wp2_with fail
        refine (HW.out _).mono ?_
        rintro e w1 ⟨a, c, rfl, ho1, hb1⟩
        obtain ⟨bb, oo, rfl, hbb, hcs⟩ := (lies_own ho1).open (by rw [List.length_map]; exact hl)
        have Ho1 := Lib.hid (lies_own ho1)
        have c0 := hcs 0 (.string b0) (by simp [Hb0.out])
        rw [Nat.add_zero] at c0
        have K1 := Lib.hid ((hb1.block w.heap.size (by simp)).trans (heap_alloc_new w _))
        have hz1 : w.heap.size < w1.heap.size := by have := hb1.size; simp at this; omega
        have Hb1 := Lib.hid (Hb.out.trans (hb1.mono Hb.out.size))
        clear hb1 ho1 hcs
        go_wp2_with fail
        refine (HO.out _).mono ?_
        rintro e w2 ⟨rfl, hb2⟩
        have K2 := Lib.hid ((hb2.block w.heap.size hz1).trans K1.out)
        have hz2 : w.heap.size < w2.heap.size := by have := hb2.size; omega
        have hbb2 : bb < w2.heap.size := by have := hb2.size; omega
        have d0 := (hb2.cell (p := ⟨bb, oo, none⟩) hbb).trans (by simpa using c0)
        have Hb2 := Lib.hid (Hb1.out.trans (hb2.mono Hb1.out.size))
        have Ho2 := Lib.hid (Ho1.out.below hb2 (Nat.le_refl _))
        have Ha := Lib.hid (Hb2.out.alloc (Nat.le_of_lt hz2) (.cells #[.int .i64 (opOfF b0), .int .i64 0] 25))
        have Ka := Lib.hid (heap_keep (o' := .cells #[.int .i64 (opOfF b0), .int .i64 0] 25) K2.out)
        have Oa := Lib.hid (Ho2.out.below ((Below.refl w2.heap.size w2).alloc (Nat.le_refl _) (.cells #[.int .i64 (opOfF b0), .int .i64 0] 25)) (Nat.le_refl _))
        clear hb2 c0
        go_wp2_with fail
        refine (HK.out _).mono ?_
        rintro e w3 ⟨rfl, hb3⟩
        have K3 := (hb3.block w.heap.size (by simp; omega)).trans Ka.out
        obtain ⟨m0, m1⟩ := keep_two hb3
        obtain ⟨c2, c3, f2, f3⟩ := blk_cs2 K3
        have X3 := (hb3.block w2.heap.size (by simp)).trans (heap_alloc_new w2 _)
        have hz3 : w2.heap.size < w3.heap.size := by have := hb3.size; simp at this; omega
        have O3 := Lib.hid (Oa.out.below hb3 (Nat.le_refl _))
        have Hb3 := Lib.hid (Ha.out.trans (hb3.mono Ha.out.size))
        clear hb3
        have K3h := Lib.hid K3
        have X3h := Lib.hid X3
        clear c2 c3 f2 f3 K3 X3
        go_wp2_with fail
        refine (HT.out _).mono ?_
        rintro e w4 ⟨rfl, hb4⟩
        have K4 := Lib.hid ((hb4.block w.heap.size (by omega)).trans K3h.out)
        have X4 := Lib.hid ((hb4.block w2.heap.size hz3).trans X3h.out)
        have hz4 : w2.heap.size < w4.heap.size := by have := hb4.size; omega
        have O4 := Lib.hid (O3.out.below hb4 (Nat.le_refl _))
        have Hb4 := Lib.hid (Hb3.out.trans (hb4.mono Hb3.out.size))
        clear hb4 m0 m1
        go_wp2_with fail
        refine (HV.out _).mono ?_
        rintro e w5 ⟨a5, c5, rfl, ho5, hb5⟩
        have O5 := Lib.hid (lies_own ho5)
        have O6 := Lib.hid (O4.out.below hb5 (Nat.le_refl _))
        have K5 := Lib.hid ((hb5.block w.heap.size (by omega)).trans K4.out)
        have X5 := Lib.hid ((hb5.block w2.heap.size hz4).trans X4.out)
        have hz5 : w2.heap.size < w5.heap.size := by have := hb5.size; omega
        have Hb5 := Lib.hid (Hb4.out.trans (hb5.mono Hb4.out.size))
        clear hb5 ho5
        go_wp2_with fail
        refine (HS.out _ _ _ _ _ O5.out O6.out).mono ?_
        rintro e w6 ⟨rfl, hb6⟩
        have K6 := (hb6.block w.heap.size (by omega)).trans K5.out
        have X6 := (hb6.block w2.heap.size hz5).trans X5.out
        have Hb6 := Lib.hid (Hb5.out.trans (hb6.mono Hb5.out.size))
        clear hb6
        obtain ⟨c2, c3, f2, f3⟩ := blk_cs2 K6
        obtain ⟨d2, d3, g2, g3⟩ := blk_cs2 X6
        have hne : w.heap.size ≠ w2.heap.size := by omega
        clear K6 X6
        go_wp2
        refine bodyPost_ret (v := .tuple #[.agg #[.int .i64 0, .int .i64 0], .bool false]) (by simp [results, Tryd.results45, go_sem, c2, c3]) rfl ?_
        exact H.out _ ((Hb6.out.setCell (p := ⟨w.heap.size, 0, none⟩) (Nat.le_refl _) _).setCell (p := ⟨w.heap.size, 1, none⟩) (Nat.le_refl _) _)
  · have hl2 : 1 < bs.length := by omega
    obtain ⟨b1, hb1'⟩ : ∃ b1, bs[1]? = some b1 := ⟨_, List.getElem?_eq_getElem hl2⟩
    have hs1 := hms b1 (List.mem_of_getElem? hb1')
    have hv := num_val hb1'
    have HN := Lib.hid (fun w => l00Number_any b1 (by omega) w)
    have hnn := fun h => HG.out w (res_num hb1' h)
    have q2 : ((bs.length : Int) == 2) = true := beq_iff_eq.2 (by omega)
    have Hb1' := Lib.hid hb1'
    have HRN := Lib.hid (fun h => res_num hb1' h)
    clear n1 hb1' hnn
    generalize (numOf (numD b1) (numNeg b1)).1 = v at *
    generalize (numOf (numD b1) (numNeg b1)).2 = ok at *
    cases ok
    · have H := Lib.hid (fun w' hb => HG.out w' (HRN.out rfl) hb)
      have Hb0 := Lib.hid hb0
      clear hv hb0 hms
      go_enter Tryd.func45, Tryd.ntmps45
      go_wp2_with fail
      refine (HW.out _).mono ?_
      rintro e w1 ⟨a, c, rfl, ho1, hb1⟩
      obtain ⟨bb, oo, rfl, hbb, hcs⟩ := (lies_own ho1).open (by rw [List.length_map]; exact hl)
      have c0 := hcs 0 (.string b0) (by simp [Hb0.out])
      rw [Nat.add_zero] at c0
      have c1 := hcs 1 (.string b1) (by simp [Hb1'.out])
      have K1 := Lib.hid ((hb1.block w.heap.size (by simp)).trans (heap_alloc_new w _))
      have hz1 : w.heap.size < w1.heap.size := by have := hb1.size; simp at this; omega
      have Hb1 := Lib.hid (Hb.out.trans (hb1.mono Hb.out.size))
      clear hb1 ho1 hcs
      go_wp2_with fail
      refine (HO.out _).mono ?_
      rintro e w2 ⟨rfl, hb2⟩
      obtain ⟨c2, c3, f2, f3⟩ := blk_cs2 ((hb2.block w.heap.size hz1).trans K1.out)
      have hz2 : w.heap.size < w2.heap.size := by have := hb2.size; omega
      have hbb2 : bb < w2.heap.size := by have := hb2.size; omega
      have d1 := (hb2.cell (p := ⟨bb, oo + 1, none⟩) hbb).trans c1
      have Hb2 := Lib.hid (Hb1.out.trans (hb2.mono Hb1.out.size))
      clear hb2 c0 c1
      go_wp2_with fail
      refine (HN.out _).mono ?_
      rintro e w' ⟨rfl, rfl⟩
      go_wp2
      refine bodyPost_ret (v := .tuple #[.agg #[.int .i64 0, .int .i64 0], .bool false]) (by simp [results, Tryd.results45, go_sem, c2, c3, hz2]) rfl ?_
      exact H.out _ (((Hb2.out.setCell (p := ⟨w.heap.size, 0, none⟩) (Nat.le_refl _) _).setCell (p := ⟨w.heap.size, 1, none⟩) (Nat.le_refl _) _).alloc (by simp; omega) _)
    · cases hok : okB (opOfF b0) v
      · have H := Lib.hid (fun w' hb => HG.out w' (res_bad hb0 hv hok) hb)
        have HK := Lib.hid (fun w => hok ▸ l02OK_any (opOfF b0) v w)
        have Hb0 := Lib.hid hb0
        clear hok hv hb0 hms
        go_enter Tryd.func45, Tryd.ntmps45
        go_wp2_with fail
        refine (HW.out _).mono ?_
        rintro e w1 ⟨a, c, rfl, ho1, hb1⟩
        obtain ⟨bb, oo, rfl, hbb, hcs⟩ := (lies_own ho1).open (by rw [List.length_map]; exact hl)
        have Ho1 := Lib.hid (lies_own ho1)
        have c0 := hcs 0 (.string b0) (by simp [Hb0.out])
        rw [Nat.add_zero] at c0
        have c1 := hcs 1 (.string b1) (by simp [Hb1'.out])
        have K1 := Lib.hid ((hb1.block w.heap.size (by simp)).trans (heap_alloc_new w _))
        have hz1 : w.heap.size < w1.heap.size := by have := hb1.size; simp at this; omega
        have Hb1 := Lib.hid (Hb.out.trans (hb1.mono Hb.out.size))
        clear hb1 ho1 hcs
        go_wp2_with fail
        refine (HO.out _).mono ?_
        rintro e w2 ⟨rfl, hb2⟩
        have K2 := Lib.hid ((hb2.block w.heap.size hz1).trans K1.out)
        have hz2 : w.heap.size < w2.heap.size := by have := hb2.size; omega
        have hbb2 : bb < w2.heap.size := by have := hb2.size; omega
        have d1 := (hb2.cell (p := ⟨bb, oo + 1, none⟩) hbb).trans c1
        have Hb2 := Lib.hid (Hb1.out.trans (hb2.mono Hb1.out.size))
        have Ho2 := Lib.hid (Ho1.out.below hb2 (Nat.le_refl _))
        have Ha := Lib.hid (Hb2.out.alloc (Nat.le_of_lt hz2) (.cells #[.int .i64 (opOfF b0), .int .i64 v] 25))
        have Ka := Lib.hid (heap_keep (o' := .cells #[.int .i64 (opOfF b0), .int .i64 v] 25) K2.out)
        have Oa := Lib.hid (Ho2.out.below ((Below.refl w2.heap.size w2).alloc (Nat.le_refl _) (.cells #[.int .i64 (opOfF b0), .int .i64 v] 25)) (Nat.le_refl _))
        clear hb2 c0
        go_wp2_with fail
        refine (HN.out _).mono ?_
        rintro e w' ⟨rfl, rfl⟩
        go_wp2_with fail
        refine (HK.out _).mono ?_
        rintro e w3 ⟨rfl, hb3⟩
        have K3 := (hb3.block w.heap.size (by simp; omega)).trans Ka.out
        obtain ⟨m0, m1⟩ := keep_two hb3
        obtain ⟨c2, c3, f2, f3⟩ := blk_cs2 K3
        have X3 := (hb3.block w2.heap.size (by simp)).trans (heap_alloc_new w2 _)
        have hz3 : w2.heap.size < w3.heap.size := by have := hb3.size; simp at this; omega
        have O3 := Lib.hid (Oa.out.below hb3 (Nat.le_refl _))
        have Hb3 := Lib.hid (Ha.out.trans (hb3.mono Ha.out.size))
        clear hb3
        go_wp2
        refine bodyPost_ret (v := .tuple #[.agg #[.int .i64 0, .int .i64 0], .bool false]) (by simp [results, Tryd.results45, go_sem, c2, c3]) rfl ?_
        exact H.out _ ((Hb3.out.setCell (p := ⟨w.heap.size, 0, none⟩) (Nat.le_refl _) _).setCell (p := ⟨w.heap.size, 1, none⟩) (Nat.le_refl _) _)
      · obtain ⟨k, hk, k1, k2, _, _⟩ := okB_nat hok
        have HK := Lib.hid (fun w => hok ▸ l02OK_any (opOfF b0) v w)
        have hok2 := hok
        rw [hk] at hok2
        have HT := Lib.hid (fun w => hk ▸ l02Text_any k v k1 k2 (ok_rng hok2) w)
        have hil := insL_len hok2
        have HV := Lib.hid (fun w => l00Words_any ⟨(insL k v).toArray⟩ (by rw [mk_size]; omega) w)
        unfold WordsPost at HV
        have HS := Lib.hid (fun a b c d w hz hy => l00SameTexts_any (wordsB ⟨(insL k v).toArray⟩) bs a b c d (by have := wordsB_len ⟨(insL k v).toArray⟩; rw [mk_size] at this; omega) w hz hy)
        by_cases hw : wordsB ⟨(insL k v).toArray⟩ = bs
        · have H := Lib.hid (fun w' hb => HF.out w' _ _ (res_yes2 hk hok2 hw) hb)
          rw [decide_eq_true hw] at HS
          have Hb0 := Lib.hid hb0
          clear hok hok2 hv hb0 hms hw hk
          generalize wordsB ⟨(insL k v).toArray⟩ = cs at *
          generalize insL k v = X at *
          go_enter Tryd.func45, Tryd.ntmps45
          go_wp2_with fail
          refine (HW.out _).mono ?_
          rintro e w1 ⟨a, c, rfl, ho1, hb1⟩
          obtain ⟨bb, oo, rfl, hbb, hcs⟩ := (lies_own ho1).open (by rw [List.length_map]; exact hl)
          have Ho1 := Lib.hid (lies_own ho1)
          have c0 := hcs 0 (.string b0) (by simp [Hb0.out])
          rw [Nat.add_zero] at c0
          have c1 := hcs 1 (.string b1) (by simp [Hb1'.out])
          have K1 := Lib.hid ((hb1.block w.heap.size (by simp)).trans (heap_alloc_new w _))
          have hz1 : w.heap.size < w1.heap.size := by have := hb1.size; simp at this; omega
          have Hb1 := Lib.hid (Hb.out.trans (hb1.mono Hb.out.size))
          clear hb1 ho1 hcs
          go_wp2_with fail
          refine (HO.out _).mono ?_
          rintro e w2 ⟨rfl, hb2⟩
          have K2 := Lib.hid ((hb2.block w.heap.size hz1).trans K1.out)
          have hz2 : w.heap.size < w2.heap.size := by have := hb2.size; omega
          have hbb2 : bb < w2.heap.size := by have := hb2.size; omega
          have d1 := (hb2.cell (p := ⟨bb, oo + 1, none⟩) hbb).trans c1
          have Hb2 := Lib.hid (Hb1.out.trans (hb2.mono Hb1.out.size))
          have Ho2 := Lib.hid (Ho1.out.below hb2 (Nat.le_refl _))
          have Ha := Lib.hid (Hb2.out.alloc (Nat.le_of_lt hz2) (.cells #[.int .i64 (opOfF b0), .int .i64 v] 25))
          have Ka := Lib.hid (heap_keep (o' := .cells #[.int .i64 (opOfF b0), .int .i64 v] 25) K2.out)
          have Oa := Lib.hid (Ho2.out.below ((Below.refl w2.heap.size w2).alloc (Nat.le_refl _) (.cells #[.int .i64 (opOfF b0), .int .i64 v] 25)) (Nat.le_refl _))
          clear hb2 c0
          go_wp2_with fail
          refine (HN.out _).mono ?_
          rintro e w' ⟨rfl, rfl⟩
          go_wp2_with fail
          refine (HK.out _).mono ?_
          rintro e w3 ⟨rfl, hb3⟩
          have K3 := (hb3.block w.heap.size (by simp; omega)).trans Ka.out
          obtain ⟨m0, m1⟩ := keep_two hb3
          obtain ⟨c2, c3, f2, f3⟩ := blk_cs2 K3
          have X3 := (hb3.block w2.heap.size (by simp)).trans (heap_alloc_new w2 _)
          have hz3 : w2.heap.size < w3.heap.size := by have := hb3.size; simp at this; omega
          have O3 := Lib.hid (Oa.out.below hb3 (Nat.le_refl _))
          have Hb3 := Lib.hid (Ha.out.trans (hb3.mono Ha.out.size))
          clear hb3
          have K3h := Lib.hid K3
          have X3h := Lib.hid X3
          clear c2 c3 f2 f3 K3 X3
          go_wp2_with fail
          refine (HT.out _).mono ?_
          rintro e w4 ⟨rfl, hb4⟩
          have K4 := Lib.hid ((hb4.block w.heap.size (by omega)).trans K3h.out)
          have X4 := Lib.hid ((hb4.block w2.heap.size hz3).trans X3h.out)
          have hz4 : w2.heap.size < w4.heap.size := by have := hb4.size; omega
          have O4 := Lib.hid (O3.out.below hb4 (Nat.le_refl _))
          have Hb4 := Lib.hid (Hb3.out.trans (hb4.mono Hb3.out.size))
          clear hb4 m0 m1
          go_wp2_with fail
          refine (HV.out _).mono ?_
          rintro e w5 ⟨a5, c5, rfl, ho5, hb5⟩
          have O5 := Lib.hid (lies_own ho5)
          have O6 := Lib.hid (O4.out.below hb5 (Nat.le_refl _))
          have K5 := Lib.hid ((hb5.block w.heap.size (by omega)).trans K4.out)
          have X5 := Lib.hid ((hb5.block w2.heap.size hz4).trans X4.out)
          have hz5 : w2.heap.size < w5.heap.size := by have := hb5.size; omega
          have Hb5 := Lib.hid (Hb4.out.trans (hb5.mono Hb4.out.size))
          clear hb5 ho5
          go_wp2_with fail
          refine (HS.out _ _ _ _ _ O5.out O6.out).mono ?_
          rintro e w6 ⟨rfl, hb6⟩
          have K6 := (hb6.block w.heap.size (by omega)).trans K5.out
          have X6 := (hb6.block w2.heap.size hz5).trans X5.out
          have Hb6 := Lib.hid (Hb5.out.trans (hb6.mono Hb5.out.size))
          clear hb6
          obtain ⟨c2, c3, f2, f3⟩ := blk_cs2 K6
          obtain ⟨d2, d3, g2, g3⟩ := blk_cs2 X6
          have hne : w.heap.size ≠ w2.heap.size := by omega
          clear K6 X6
          go_wp2
          refine bodyPost_ret (v := .tuple #[.agg #[.int .i64 (opOfF b0), .int .i64 v], .bool true]) (by simp [results, Tryd.results45, go_sem, c2, c3]) rfl ?_
          exact H.out _ ((Hb6.out.setCell (p := ⟨w.heap.size, 0, none⟩) (Nat.le_refl _) _).setCell (p := ⟨w.heap.size, 1, none⟩) (Nat.le_refl _) _)
        · have H := Lib.hid (fun w' hb => HG.out w' (res_other2 hb0 hk hok2 hv hw) hb)
          rw [decide_eq_false hw] at HS
          have Hb0 := Lib.hid hb0
          clear hok hok2 hv hb0 hms hw hk
          generalize wordsB ⟨(insL k v).toArray⟩ = cs at *
          generalize insL k v = X at *
          go_enter Tryd.func45, Tryd.ntmps45
          go_wp2_with fail
          refine (HW.out _).mono ?_
          rintro e w1 ⟨a, c, rfl, ho1, hb1⟩
          obtain ⟨bb, oo, rfl, hbb, hcs⟩ := (lies_own ho1).open (by rw [List.length_map]; exact hl)
          have Ho1 := Lib.hid (lies_own ho1)
          have c0 := hcs 0 (.string b0) (by simp [Hb0.out])
          rw [Nat.add_zero] at c0
          have c1 := hcs 1 (.string b1) (by simp [Hb1'.out])
          have K1 := Lib.hid ((hb1.block w.heap.size (by simp)).trans (heap_alloc_new w _))
          have hz1 : w.heap.size < w1.heap.size := by have := hb1.size; simp at this; omega
          have Hb1 := Lib.hid (Hb.out.trans (hb1.mono Hb.out.size))
          clear hb1 ho1 hcs
          go_wp2_with fail
          refine (HO.out _).mono ?_
          rintro e w2 ⟨rfl, hb2⟩
          have K2 := Lib.hid ((hb2.block w.heap.size hz1).trans K1.out)
          have hz2 : w.heap.size < w2.heap.size := by have := hb2.size; omega
          have hbb2 : bb < w2.heap.size := by have := hb2.size; omega
          have d1 := (hb2.cell (p := ⟨bb, oo + 1, none⟩) hbb).trans c1
          have Hb2 := Lib.hid (Hb1.out.trans (hb2.mono Hb1.out.size))
          have Ho2 := Lib.hid (Ho1.out.below hb2 (Nat.le_refl _))
          have Ha := Lib.hid (Hb2.out.alloc (Nat.le_of_lt hz2) (.cells #[.int .i64 (opOfF b0), .int .i64 v] 25))
          have Ka := Lib.hid (heap_keep (o' := .cells #[.int .i64 (opOfF b0), .int .i64 v] 25) K2.out)
          have Oa := Lib.hid (Ho2.out.below ((Below.refl w2.heap.size w2).alloc (Nat.le_refl _) (.cells #[.int .i64 (opOfF b0), .int .i64 v] 25)) (Nat.le_refl _))
          clear hb2 c0
          go_wp2_with fail
          refine (HN.out _).mono ?_
          rintro e w' ⟨rfl, rfl⟩
          go_wp2_with fail
          refine (HK.out _).mono ?_
          rintro e w3 ⟨rfl, hb3⟩
          have K3 := (hb3.block w.heap.size (by simp; omega)).trans Ka.out
          obtain ⟨m0, m1⟩ := keep_two hb3
          obtain ⟨c2, c3, f2, f3⟩ := blk_cs2 K3
          have X3 := (hb3.block w2.heap.size (by simp)).trans (heap_alloc_new w2 _)
          have hz3 : w2.heap.size < w3.heap.size := by have := hb3.size; simp at this; omega
          have O3 := Lib.hid (Oa.out.below hb3 (Nat.le_refl _))
          have Hb3 := Lib.hid (Ha.out.trans (hb3.mono Ha.out.size))
          clear hb3
          have K3h := Lib.hid K3
          have X3h := Lib.hid X3
          clear c2 c3 f2 f3 K3 X3
          go_wp2_with fail
          refine (HT.out _).mono ?_
          rintro e w4 ⟨rfl, hb4⟩
          have K4 := Lib.hid ((hb4.block w.heap.size (by omega)).trans K3h.out)
          have X4 := Lib.hid ((hb4.block w2.heap.size hz3).trans X3h.out)
          have hz4 : w2.heap.size < w4.heap.size := by have := hb4.size; omega
          have O4 := Lib.hid (O3.out.below hb4 (Nat.le_refl _))
          have Hb4 := Lib.hid (Hb3.out.trans (hb4.mono Hb3.out.size))
          clear hb4 m0 m1
          go_wp2_with fail
          refine (HV.out _).mono ?_
          rintro e w5 ⟨a5, c5, rfl, ho5, hb5⟩
          have O5 := Lib.hid (lies_own ho5)
          have O6 := Lib.hid (O4.out.below hb5 (Nat.le_refl _))
          have K5 := Lib.hid ((hb5.block w.heap.size (by omega)).trans K4.out)
          have X5 := Lib.hid ((hb5.block w2.heap.size hz4).trans X4.out)
          have hz5 : w2.heap.size < w5.heap.size := by have := hb5.size; omega
          have Hb5 := Lib.hid (Hb4.out.trans (hb5.mono Hb4.out.size))
          clear hb5 ho5
          go_wp2_with fail
          refine (HS.out _ _ _ _ _ O5.out O6.out).mono ?_
          rintro e w6 ⟨rfl, hb6⟩
          have K6 := (hb6.block w.heap.size (by omega)).trans K5.out
          have X6 := (hb6.block w2.heap.size hz5).trans X5.out
          have Hb6 := Lib.hid (Hb5.out.trans (hb6.mono Hb5.out.size))
          clear hb6
          obtain ⟨c2, c3, f2, f3⟩ := blk_cs2 K6
          obtain ⟨d2, d3, g2, g3⟩ := blk_cs2 X6
          have hne : w.heap.size ≠ w2.heap.size := by omega
          clear K6 X6
          go_wp2
          refine bodyPost_ret (v := .tuple #[.agg #[.int .i64 0, .int .i64 0], .bool false]) (by simp [results, Tryd.results45, go_sem, c2, c3]) rfl ?_
          exact H.out _ ((Hb6.out.setCell (p := ⟨w.heap.size, 0, none⟩) (Nat.le_refl _) _).setCell (p := ⟨w.heap.size, 1, none⟩) (Nat.le_refl _) _)
theorem specReadInstr_any (s : ByteArray) (hm : s.size ≤ maxLen) (w : World) : Calls Tryd.prog 15 #[.string s] w (RIPost s w) := by
  unfold maxLen at hm
  have Hb := Lib.hid ((Below.refl w.heap.size w).alloc (Nat.le_refl _) (.cells #[.int .i64 0, .int .i64 0] 25))
  by_cases hs : 65536 < s.size
  · have H := Lib.hid (show ∀ w', Below w.heap.size w w' → RIPost s w (.returned (.tuple #[.agg #[.int .i64 0, .int .i64 0], .int .i64 2])) w' from fun w' hb => ⟨0, 0, 2, rfl, .inl ⟨hs, rfl, rfl, rfl⟩, hb⟩)
    go_enter Tryd.func15, Tryd.ntmps15
    go_wp2
    refine bodyPost_ret (v := .tuple #[.agg #[.int .i64 0, .int .i64 0], .int .i64 2]) (by simp [results, Tryd.results15, go_sem]) rfl ?_
    exact H.out _ Hb.out
  have H := Lib.hid (show ∀ w' x y c, ResR (wordsL s.data.toList) x y c → Below w.heap.size w w' → RIPost s w (.returned (.tuple #[.agg #[.int .i64 x, .int .i64 y], .int .i64 c])) w' from fun w' x y c h hb => ⟨x, y, c, rfl, .inr ⟨hs, h⟩, hb⟩)
  have HL := Lib.hid (l02Read_any s (by omega))
  go_enter Tryd.func15, Tryd.ntmps15
  go_wp2_with fail
  refine (HL.out _).mono ?_
  rintro e w1 ⟨x, y, b, rfl, hr, hb1⟩
  obtain ⟨c0, c1⟩ := keep_two hb1
  obtain ⟨f0, f1⟩ := keep_free2 hb1
  have hz : w.heap.size < w1.heap.size := by have := hb1.size; simp at this; omega
  have Hb1 := Lib.hid (Hb.out.trans (hb1.mono Hb.out.size))
  have HR := Lib.hid hr
  clear hb1 hr
  cases b
  · have h00 : x = 0 ∧ y = 0 := by
      rcases HR.out with ⟨h, _⟩ | ⟨_, hx, hy, _⟩
      · simp at h
      · exact ⟨hx, hy⟩
    obtain ⟨rfl, rfl⟩ := h00
    go_wp2
    refine bodyPost_ret (v := .tuple #[.agg #[.int .i64 0, .int .i64 0], .int .i64 3]) (by simp [results, Tryd.results15, go_sem, c0, c1, hz]) rfl ?_
    exact H.out _ _ _ _ HR.out (((Hb1.out.setCell (p := ⟨w.heap.size, 0, none⟩) (Nat.le_refl _) _).setCell (p := ⟨w.heap.size, 1, none⟩) (Nat.le_refl _) _).alloc (by simp; omega) _)
  · go_wp2
    refine bodyPost_ret (v := .tuple #[.agg #[.int .i64 x, .int .i64 y], .int .i64 0]) (by simp [results, Tryd.results15, go_sem, c0, c1, hz]) rfl ?_
    exact H.out _ _ _ _ HR.out (((Hb1.out.setCell (p := ⟨w.heap.size, 0, none⟩) (Nat.le_refl _) _).setCell (p := ⟨w.heap.size, 1, none⟩) (Nat.le_refl _) _).alloc (by simp; omega) _)
end Go.Proofs.YtnokkkmokfojnaaDoor
