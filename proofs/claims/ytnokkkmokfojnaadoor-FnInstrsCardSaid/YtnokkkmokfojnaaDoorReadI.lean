/- ReadInstr of impl and of spec. -/
import Derived.Test.YtnokkkmokfojnaaDoorReadM
import Derived.Test.YtnokkkmokfojnaaDoorWords
import Derived.Outline
namespace Go.Proofs.YtnokkkmokfojnaaDoor
open Go.ChangeShapes Go.WideShapes Go.ChangeAt Go.RowKit Go.PlainAid
/-- The words of an instruction. -/
def wl (k : Nat) (a : Int) : List (List UInt8) := if opHas k = true then [(opNm k).data.toList, Lib.itoa a] else [(opNm k).data.toList]
theorem nm_dec : ∀ k : Fin 27, 1 ≤ k.1 → (∀ c ∈ (opNm k.1).data.toList, c ≠ (32 : UInt8)) ∧ (opNm k.1).data.toList ≠ [] := by decide
theorem nm_bare {k : Nat} (h1 : 1 ≤ k) (h2 : k ≤ 26) : (opNm k).data.toList ≠ [] ∧ Bare (opNm k).data.toList := by
  have := nm_dec ⟨k, by omega⟩ h1
  exact ⟨this.2, this.1⟩
theorem nm_diff : ∀ k j : Fin 27, 1 ≤ k.1 → 1 ≤ j.1 → (opNm k.1).data.toList = (opNm j.1).data.toList → k = j := by decide
theorem nm_inj {k j : Nat} (h1 : 1 ≤ k) (h2 : k ≤ 26) (g1 : 1 ≤ j) (g2 : j ≤ 26) (h : (opNm k).data.toList = (opNm j).data.toList) : k = j := by
  have := nm_diff ⟨k, by omega⟩ ⟨j, by omega⟩ h1 g1 h
  simpa using this
theorem opOf_nm {k : Nat} (h1 : 1 ≤ k) (h2 : k ≤ 26) : opOfF (opNm k) = k :=
  opOfF_yes h1 h2 (by simp) (fun j hj1 hj => by
    cases e : ((opNm j).toList == (opNm k).toList)
    · rfl
    · have := eq_of_beq e
      rw [ByteArray.toList_eq, ByteArray.toList_eq] at this
      have := nm_inj hj1 (by omega) h1 h2 this
      omega)
theorem wl_bare {k : Nat} (h1 : 1 ≤ k) (h2 : k ≤ 26) (a : Int) : ∀ x ∈ wl k a, x ≠ [] ∧ Bare x := by
  intro x hx
  unfold wl at hx
  split at hx
  · simp at hx
    rcases hx with rfl | rfl
    · exact nm_bare h1 h2
    · exact ⟨(itoa_bare a).2, (itoa_bare a).1⟩
  · simp at hx
    subst hx
    exact nm_bare h1 h2
theorem join_wl (k : Nat) (a : Int) : Lib.join (wl k a) [32] = insL k a := by
  unfold wl insL
  split
  · rw [Lib.join_cons]
    simp [Lib.joinTail]
  · rw [Lib.join_one]
    simp
theorem words_insL {k : Nat} (h1 : 1 ≤ k) (h2 : k ≤ 26) (a : Int) : wordsL (insL k a) = wl k a := by rw [← join_wl, words_join _ (wl_bare h1 h2 a)]
/-- What is read of some words. -/
def ResR (ws : List (List UInt8)) (x y c : Int) : Prop :=
  (c = 0 ∧ ∃ k : Nat, x = (k : Int) ∧ okB (k : Int) y = true ∧ ws = wl k y) ∨ (c = 3 ∧ x = 0 ∧ y = 0 ∧ ∀ (k : Nat) (a : Int), okB (k : Int) a = true → ws ≠ wl k a)
theorem wl_head (k : Nat) (a : Int) : (wl k a).head? = some (opNm k).data.toList := by unfold wl; split <;> rfl
theorem bare_zero {k : Nat} {a : Int} (h : okB (k : Int) a = true) (g : opHas k = false) : a = 0 := by
  obtain ⟨⟨h1, h2⟩, h3, h4⟩ := okB_yes h
  have : opHi k ≤ 0 := by unfold opHas at g; have := of_decide_eq_false g; omega
  have h0 := op_cases (p := fun k => opHi k ≤ 0 → opLo k = 0) (by decide) (show k < 27 by omega) this
  omega
theorem ok_rng {k : Nat} {a : Int} (h : okB (k : Int) a = true) : -2147483648 ≤ a ∧ a ≤ 2147483647 := by
  obtain ⟨_, h3, h4⟩ := okB_yes h
  have := opLo_ge k
  have := opHi_le k
  omega
theorem wl_inj {k j : Nat} {a b : Int} (h : okB (k : Int) a = true) (g : okB (j : Int) b = true) (e : wl k a = wl j b) : k = j ∧ a = b := by
  have hk := (okB_yes h).1
  have hj := (okB_yes g).1
  have hh := congrArg List.head? e
  rw [wl_head, wl_head] at hh
  obtain rfl := nm_inj hk.1 hk.2 hj.1 hj.2 (Option.some.inj hh)
  refine ⟨rfl, ?_⟩
  cases ho : opHas k
  · rw [bare_zero h ho, bare_zero g ho]
  · unfold wl at e
    rw [if_pos ho, if_pos ho] at e
    simp at e
    have e1 := atoi_itoa a (ok_rng h).1 (ok_rng h).2
    have e2 := atoi_itoa b (ok_rng g).1 (ok_rng g).2
    rw [e, e2] at e1
    injection e1 with e1
    exact e1.symm
theorem resR_one {ws : List (List UInt8)} {x y c x' y' c' : Int} (h : ResR ws x y c) (g : ResR ws x' y' c') : x = x' ∧ y = y' ∧ c = c' := by
  rcases h with ⟨rfl, k, rfl, h1, h2⟩ | ⟨rfl, rfl, rfl, h1⟩ <;> rcases g with ⟨rfl, j, rfl, g1, g2⟩ | ⟨rfl, rfl, rfl, g1⟩
  · obtain ⟨rfl, rfl⟩ := wl_inj h1 g1 (h2.symm.trans g2)
    exact ⟨rfl, rfl, rfl⟩
  · exact absurd h2 (g1 _ _ h1)
  · exact absurd g2 (h1 _ _ g1)
  · exact ⟨rfl, rfl, rfl⟩
theorem txt_len (n a : Int) : (txtF n a).length ≤ 40 := by
  unfold txtF
  split
  · rename_i h
    obtain ⟨k, rfl, _, _, h3, h4⟩ := okB_nat h
    have h6 := opNm_len k
    have hr := ok_rng h
    have hi := Lib.itoa_length_le a (by omega) (by omega)
    unfold insL
    rw [List.length_append]
    have : (opNm (k : Int).toNat).data.toList.length = (opNm k).size := by rw [Int.toNat_natCast]; rw [Array.length_toList]; rfl
    rw [this]
    split
    · simp; omega
    · simp; omega
  · simp
/-- The two variables that Atoi hands on. -/
def StrErr (W : World) : Prop := (∃ tp p, W.var? Tryd.prog "strconv.ErrSyntax" = some #[.iface tp p]) ∧ ∃ tp p, W.var? Tryd.prog "strconv.ErrRange" = some #[.iface tp p]
theorem gESyn : Tryd.prog.globalNamed "strconv.ErrSyntax" = some 3 := by kernel_rfl
theorem gERng : Tryd.prog.globalNamed "strconv.ErrRange" = some 4 := by kernel_rfl
theorem var_lt {W : World} {g : Nat} {name : String} {cs : Array Value} (hg : Tryd.prog.globalNamed name = some g) (h : W.var? Tryd.prog name = some cs) : g < W.heap.size := by
  rcases Nat.lt_or_ge g W.heap.size with h' | h'
  · exact h'
  · simp [World.var?, hg, Array.getElem?_eq_none h'] at h
theorem StrErr.below {B : Nat} {w w' : World} (h : StrErr w) (g : Below B w w') (hB : w.heap.size ≤ B) : StrErr w' := by
  obtain ⟨⟨t1, p1, h1⟩, t2, p2, h2⟩ := h
  exact ⟨⟨t1, p1, var?_below (g.mono hB) gESyn (var_lt gESyn h1) h1⟩, t2, p2, var?_below (g.mono hB) gERng (var_lt gERng h2) h2⟩
theorem below_bytes {w w' : World} (h : w' = w ∨ ∃ t, w' = Lib.bytesWorld w 5 t) : Below w.heap.size w w' := by
  rcases h with rfl | ⟨t, rfl⟩
  · exact Below.refl _ _
  · exact Joins.below_bytesWorld _ _ _ _ (Nat.le_refl _)
def AtoiPost (s : ByteArray) (w : World) (e : Ending) (w' : World) : Prop :=
  ∃ (v : Int) (er : Value), e = .returned (.tuple #[.int .i64 v, er]) ∧ (∀ a, -2147483648 ≤ a → a ≤ 2147483647 → s.data.toList = Lib.itoa a → v = a) ∧ Below w.heap.size w w'
theorem atoi_any (s : ByteArray) (hs : s.size ≤ 1000000) (w : World) (h : StrErr w) : Calls Tryd.prog 64 #[.string s] w (AtoiPost s w) := by
  obtain ⟨⟨t1, p1, h1⟩, t2, p2, h2⟩ := h
  have key : ∀ a, -2147483648 ≤ a → a ≤ 2147483647 → s.data.toList = Lib.itoa a → Lib.atoiAll s.data.toList = .ok a := fun a a0 a1 e => by rw [e]; exact atoi_itoa a a0 a1
  cases e : Lib.atoiAll s.data.toList with
  | ok v =>
    refine (Any.strconv_Atoi_ok Tryd.laysC172 s (by omega) v e w).mono ?_
    rintro e' w' ⟨rfl, hw⟩
    refine ⟨v, _, rfl, fun a a0 a1 ea => ?_, below_bytes hw⟩
    have := key a a0 a1 ea
    rw [e] at this
    injection this
  | range =>
    refine (Any.strconv_Atoi_range_var Tryd.laysC172 s (by omega) e t2 p2 w h2).mono ?_
    rintro e' w' ⟨N, rfl, _, _, hb⟩
    refine ⟨_, _, rfl, fun a a0 a1 ea => ?_, hb⟩
    have := key a a0 a1 ea
    rw [e] at this
    cases this
  | _ =>
    refine (Any.strconv_Atoi_syntax_var Tryd.laysC172 s (by omega) e t1 p1 w h1).mono ?_
    rintro e' w' ⟨N, rfl, _, _, hb⟩
    refine ⟨_, _, rfl, fun a a0 a1 ea => ?_, hb⟩
    have := key a a0 a1 ea
    rw [e] at this
    cases this
def InsPost (ws : List (List UInt8)) (w : World) (e : Ending) (w' : World) : Prop :=
  ∃ x y c : Int, e = .returned (.tuple #[.agg #[.int .i64 x, .int .i64 y], .int .i64 c]) ∧ ResR ws x y c ∧ Below w.heap.size w w'
theorem ins_fin {ws : List (List UInt8)} {w w' : World} {x y c : Int} (h : ResR ws x y c) (hb : Below w.heap.size w w') : InsPost ws w (.returned (.tuple #[.agg #[.int .i64 x, .int .i64 y], .int .i64 c])) w' := ⟨x, y, c, rfl, h, hb⟩
theorem wl_ne (k : Nat) (a : Int) : wl k a ≠ [] := by unfold wl; split <;> simp
theorem res_none : ResR [] 0 0 3 := .inr ⟨rfl, rfl, rfl, fun k a _ e => wl_ne k a e.symm⟩
/-- The words were an instruction's: then the first names the operation. -/
theorem op_of_first {bs : List ByteArray} {b0 : ByteArray} {k : Nat} {a : Int} (hb : bs[0]? = some b0) (hk : 1 ≤ k ∧ k ≤ 26) (h : bs.map (·.data.toList) = wl k a) : opOfF b0 = k := by
  have := congrArg List.head? h
  rw [wl_head, List.head?_map, List.head?_eq_getElem?, hb] at this
  have e : b0.data.toList = (opNm k).data.toList := Option.some.inj this
  rw [bytes_inj e, opOf_nm hk.1 hk.2]
theorem res_bad {bs : List ByteArray} {b0 : ByteArray} {v : Int} (hb : bs[0]? = some b0) (hv : ∀ (k : Nat) (a : Int), okB (k : Int) a = true → bs.map (·.data.toList) = wl k a → v = a) (h : okB (opOfF b0) v = false) : ResR (bs.map (·.data.toList)) 0 0 3 :=
  .inr ⟨rfl, rfl, rfl, fun k a hok e => by
    have h1 := op_of_first hb (okB_yes hok).1 e
    rw [h1, hv k a hok e, hok] at h
    cases h⟩
theorem res_other {bs : List ByteArray} {b0 : ByteArray} {v : Int} (hb : bs[0]? = some b0) (hv : ∀ (k : Nat) (a : Int), okB (k : Int) a = true → bs.map (·.data.toList) = wl k a → v = a) (h : txtF (opOfF b0) v ≠ Lib.join (bs.map (·.data.toList)) [32]) : ResR (bs.map (·.data.toList)) 0 0 3 :=
  .inr ⟨rfl, rfl, rfl, fun k a hok e => by
    have h1 := op_of_first hb (okB_yes hok).1 e
    rw [h1, hv k a hok e, (txt_in hok).1, e, join_wl] at h
    exact h rfl⟩
theorem res_yes {bs : List ByteArray} {b0 : ByteArray} {v : Int} (hw : ∀ x ∈ bs.map (·.data.toList), x ≠ [] ∧ Bare x) (hok : okB (opOfF b0) v = true) (h : txtF (opOfF b0) v = Lib.join (bs.map (·.data.toList)) [32]) : ResR (bs.map (·.data.toList)) (opOfF b0) v 0 := by
  obtain ⟨k, hk, h1, h2, _, _⟩ := okB_nat hok
  rw [hk] at hok h
  refine .inl ⟨rfl, k, hk, hok, ?_⟩
  rw [(txt_in hok).1] at h
  rw [← words_join _ hw, ← h, words_insL h1 h2]
theorem wl_one {k : Nat} {a : Int} {bs : List ByteArray} (hl : bs.length = 1) (hok : okB (k : Int) a = true) (h : bs.map (·.data.toList) = wl k a) : (0 : Int) = a := by
  have := congrArg List.length h
  rw [List.length_map, hl] at this
  unfold wl at this
  split at this
  · simp at this
  · rename_i g
    exact (bare_zero hok (by simpa using g)).symm
theorem wl_two {k : Nat} {a : Int} {bs : List ByteArray} {b1 : ByteArray} (hb : bs[1]? = some b1) (h : bs.map (·.data.toList) = wl k a) : b1.data.toList = Lib.itoa a := by
  have := congrArg (·[1]?) h
  simp only [List.getElem?_map, hb] at this
  unfold wl at this
  split at this
  · simpa using this
  · simp at this
theorem txt_in' {n a : Int} (h : okB n a = true) : txtC n a = 0 := if_pos h
theorem blk_cs2 {w : World} {b : Nat} {x y : Value} {t : TypeId} (h : w.heap[b]? = some (.cells #[x, y] t (0, 0))) :
    w.cell? ⟨b, 0, none⟩ = some x ∧ w.cell? ⟨b, 1, none⟩ = some y ∧ w.frozen? ⟨b, 0, none⟩ = false ∧ w.frozen? ⟨b, 1, none⟩ = false :=
  ⟨cell_of_row _ _ 0 _ _ _ h, cell_of_row _ _ 1 _ _ _ h, frozen_of_row _ _ 0 _ _ h, frozen_of_row _ _ 1 _ _ h⟩
theorem heap_set2 {w : World} {b : Nat} {x y : Value} {t : TypeId} (h : w.heap[b]? = some (.cells #[x, y] t (0, 0))) (i : Nat) (u : Value) : (w.setCell ⟨b, i, none⟩ u).heap[b]? = some (.cells (#[x, y].setIfInBounds i u) t (0, 0)) := by
  simp [World.setCell, Array.getElem?_modify, h]
theorem keep_free2 {w w1 : World} {x y : Value} {t : TypeId} (hb : Below (w.alloc (.cells #[x, y] t)).heap.size (w.alloc (.cells #[x, y] t)) w1) : w1.frozen? ⟨w.heap.size, 0, none⟩ = false ∧ w1.frozen? ⟨w.heap.size, 1, none⟩ = false := by
  have hk : w1.heap[w.heap.size]? = some (.cells #[x, y] t (0, 0)) := (hb.block w.heap.size (by simp)).trans (heap_alloc_new w _)
  exact ⟨frozen_of_row _ _ 0 _ _ hk, frozen_of_row _ _ 1 _ _ hk⟩
theorem two_blocks {w w3 : World} {x0 y0 x1 y1 : Value} {t u : TypeId} (hb : Below ((w.alloc (.cells #[x0, y0] t)).alloc (.cells #[x1, y1] u)).heap.size ((w.alloc (.cells #[x0, y0] t)).alloc (.cells #[x1, y1] u)) w3) :
    w3.heap[w.heap.size]? = some (.cells #[x0, y0] t (0, 0)) ∧ w3.heap[w.heap.size + 1]? = some (.cells #[x1, y1] u (0, 0)) := by
  constructor
  · exact (hb.block w.heap.size (by simp; omega)).trans (heap_keep (heap_alloc_new w _))
  · have h := heap_alloc_new (w.alloc (.cells #[x0, y0] t)) (.cells #[x1, y1] u)
    have e : (w.alloc (.cells #[x0, y0] t)).heap.size = w.heap.size + 1 := by simp
    rw [e] at h
    exact (hb.block (w.heap.size + 1) (by simp)).trans h
theorem toL_mk (X : List UInt8) : (⟨X.toArray⟩ : ByteArray).toList = X := by rw [ByteArray.toList_eq]
set_option maxRecDepth 100000 in
set_option maxHeartbeats 2000000 in
theorem instrOf_any (bs : List ByteArray) (a : Option Addr) (c : Nat) (hw : ∀ x ∈ bs.map (·.data.toList), x ≠ [] ∧ Bare x) (hn : bs.length ≤ 65536) (hsz : total (bs.map (·.data.toList)) ≤ 65536) (hc : bs.length ≤ c) (w : World) (hz : Lies w a (bs.map Value.string)) (hT : OpTab w) (hP : Pow10 w) (hE : StrErr w) :
    Calls Tryd.prog 43 #[.slice a bs.length c] w (InsPost (bs.map (·.data.toList)) w) := by
  have Hb := Lib.hid ((Below.refl w.heap.size w).alloc (Nat.le_refl _) (.cells #[.int .i64 0, .int .i64 0] 25))
  by_cases h0 : bs = []
  · subst h0
    have H := Lib.hid (fun w' hb => ins_fin (w := w) (w' := w') res_none hb)
    clear hz hT hP hE hw hsz hn hc
    go_enter Tryd.func43, Tryd.ntmps43
    go_wp2
    refine bodyPost_ret (v := .tuple #[.agg #[.int .i64 0, .int .i64 0], .int .i64 3]) (by simp [results, Tryd.results43, go_sem]) rfl ?_
    exact H.out _ Hb.out
  have hl : 0 < bs.length := by
    rcases Nat.eq_zero_or_pos bs.length with h | h
    · exact absurd (List.eq_nil_of_length_eq_zero h) h0
    · exact h
  obtain ⟨b, o, rfl, hbl, hcs⟩ := hz.open (by rw [List.length_map]; exact hl)
  obtain ⟨b0, hb0⟩ : ∃ b0, bs[0]? = some b0 := ⟨_, List.getElem?_eq_getElem hl⟩
  have c0 := hcs 0 (.string b0) (by simp [hb0])
  have Hb0 := Lib.hid hb0
  clear hb0
  rw [Nat.add_zero] at c0
  have HJ := Lib.hid (fun (w' : World) (hb : Below w.heap.size w w') (g : b < w'.heap.size) => Tryd.strings_Join b o c bs ⟨#[32]⟩ w' (fun j x hj => (hb.cell (p := ⟨b, o + j, none⟩) hbl).trans (hcs j _ (by simp [hj]))) g (by omega) hc (by have := join_total (bs.map (·.data.toList)); rw [List.length_map] at this; show (Lib.join _ [32]).length ≤ _; omega))
  have HT := Lib.hid hT
  have HP := Lib.hid hP
  have HE := Lib.hid hE
  have HW := Lib.hid hw
  have hjt := join_total (bs.map (·.data.toList))
  rw [List.length_map] at hjt
  by_cases h1 : bs.length = 1
  · have hv := fun (k : Nat) (a : Int) (hok : okB (k : Int) a = true) e => wl_one h1 hok e
    have HX := Lib.hid (fun w hT hP => instrText_any (opOfF b0) 0 w hT hP)
    have Ha := Lib.hid (Hb.out.alloc (by simp) (.cells #[.int .i64 (opOfF b0), .int .i64 0] 25))
    have q0 : ((bs.length : Int) == 0) = false := beq_eq_false_iff_ne.2 (by omega)
    have q1 : ¬ (1 : Int) < (bs.length : Int) := by omega
    have q2 : (bs.length : Int) ≤ 1 := by omega
    clear h0 h1 hz hT hP hE hcs
    cases hok : okB (opOfF b0) 0
    · have H := Lib.hid (fun w' hb => ins_fin (w := w) (w' := w') (res_bad Hb0.out hv hok) hb)
      have hx := txt_out hok
      rw [hx.1, hx.2] at HX
      clear hok hx hv
      go_enter Tryd.func43, Tryd.ntmps43
      go_wp2_with (go_at_call 21; refine (opOf_any _ _ (HT.out.below Hb.out (Nat.le_refl _))).mono ?_; rintro e w' ⟨rfl, rfl⟩)
      refine (HX.out _ (HT.out.below Ha.out (Nat.le_refl _)) (HP.out.below Ha.out (Nat.le_refl _))).mono ?_
      rintro e w3 ⟨rfl, hb3⟩
      obtain ⟨K0, K1⟩ := two_blocks hb3
      have hz3 : w.heap.size + 1 < w3.heap.size := by have := hb3.size; simp at this; omega
      have Hb3 := Lib.hid (Ha.out.trans (hb3.mono Ha.out.size))
      clear hb3
      obtain ⟨c2, c3, f2, f3⟩ := blk_cs2 K0
      go_wp2
      refine bodyPost_ret (v := .tuple #[.agg #[.int .i64 0, .int .i64 0], .int .i64 3]) (by simp [results, Tryd.results43, go_sem, c2, c3]) rfl ?_
      exact H.out _ ((Hb3.out.setCell (p := ⟨w.heap.size, 0, none⟩) (Nat.le_refl _) _).setCell (p := ⟨w.heap.size, 1, none⟩) (Nat.le_refl _) _)
    · have hx := txt_in' hok
      rw [hx] at HX
      have htl := txt_len (opOfF b0) 0
      by_cases hj : txtF (opOfF b0) 0 = Lib.join (bs.map (·.data.toList)) [32]
      · have H := Lib.hid (fun w' hb => ins_fin (w := w) (w' := w') (res_yes hw hok hj) hb)
        have hq : (txtF (opOfF b0) 0 == Lib.join (bs.map (·.data.toList)) [32]) = true := beq_iff_eq.2 hj
        have HQ := Lib.hid hq
        clear hok hx hv hj hq
        generalize txtF (opOfF b0) 0 = X at *
        go_enter Tryd.func43, Tryd.ntmps43
        go_wp2_with (go_at_call 21; refine (opOf_any _ _ (HT.out.below Hb.out (Nat.le_refl _))).mono ?_; rintro e w' ⟨rfl, rfl⟩)
        refine (HX.out _ (HT.out.below Ha.out (Nat.le_refl _)) (HP.out.below Ha.out (Nat.le_refl _))).mono ?_
        rintro e w3 ⟨rfl, hb3⟩
        obtain ⟨K0, K1⟩ := two_blocks hb3
        have hz3 : w.heap.size + 1 < w3.heap.size := by have := hb3.size; simp at this; omega
        have Hb3 := Lib.hid (Ha.out.trans (hb3.mono Ha.out.size))
        clear hb3
        have hq2 := HQ.out
        have hq3 : (!(X == Lib.join (bs.map (·.data.toList)) [32])) = false := by rw [HQ.out]; rfl
        go_wp2_with fail
        refine (HJ.out _ Hb3.out (Nat.lt_of_lt_of_le hbl Hb3.out.size)).mono ?_
        rintro e w4 ⟨rfl, hb4⟩
        have Hb4 := Lib.hid (Hb3.out.trans (hb4.mono Hb3.out.size))
        have K0' := (hb4.block w.heap.size (by omega)).trans K0
        have K1' := (hb4.block (w.heap.size + 1) hz3).trans K1
        clear hb4
        obtain ⟨c2, c3, f2, f3⟩ := blk_cs2 K0'
        obtain ⟨d2, d3, g2, g3⟩ := blk_cs2 K1'
        go_wp2
        refine bodyPost_ret (v := .tuple #[.agg #[.int .i64 (opOfF b0), .int .i64 0], .int .i64 0]) (by simp [results, Tryd.results43, go_sem, c2, c3]) rfl ?_
        exact H.out _ ((Hb4.out.setCell (p := ⟨w.heap.size, 0, none⟩) (Nat.le_refl _) _).setCell (p := ⟨w.heap.size, 1, none⟩) (Nat.le_refl _) _)
      · have H := Lib.hid (fun w' hb => ins_fin (w := w) (w' := w') (res_other Hb0.out hv hj) hb)
        have hq : (txtF (opOfF b0) 0 == Lib.join (bs.map (·.data.toList)) [32]) = false := beq_eq_false_iff_ne.2 hj
        have HQ := Lib.hid hq
        clear hok hx hv hj hq
        generalize txtF (opOfF b0) 0 = X at *
        go_enter Tryd.func43, Tryd.ntmps43
        go_wp2_with (go_at_call 21; refine (opOf_any _ _ (HT.out.below Hb.out (Nat.le_refl _))).mono ?_; rintro e w' ⟨rfl, rfl⟩)
        refine (HX.out _ (HT.out.below Ha.out (Nat.le_refl _)) (HP.out.below Ha.out (Nat.le_refl _))).mono ?_
        rintro e w3 ⟨rfl, hb3⟩
        obtain ⟨K0, K1⟩ := two_blocks hb3
        have hz3 : w.heap.size + 1 < w3.heap.size := by have := hb3.size; simp at this; omega
        have Hb3 := Lib.hid (Ha.out.trans (hb3.mono Ha.out.size))
        clear hb3
        have hq2 := HQ.out
        have hq3 : (!(X == Lib.join (bs.map (·.data.toList)) [32])) = true := by rw [HQ.out]; rfl
        go_wp2_with fail
        refine (HJ.out _ Hb3.out (Nat.lt_of_lt_of_le hbl Hb3.out.size)).mono ?_
        rintro e w4 ⟨rfl, hb4⟩
        have Hb4 := Lib.hid (Hb3.out.trans (hb4.mono Hb3.out.size))
        have K0' := (hb4.block w.heap.size (by omega)).trans K0
        have K1' := (hb4.block (w.heap.size + 1) hz3).trans K1
        clear hb4
        obtain ⟨c2, c3, f2, f3⟩ := blk_cs2 K0'
        go_wp2
        refine bodyPost_ret (v := .tuple #[.agg #[.int .i64 0, .int .i64 0], .int .i64 3]) (by simp [results, Tryd.results43, go_sem, c2, c3]) rfl ?_
        exact H.out _ ((Hb4.out.setCell (p := ⟨w.heap.size, 0, none⟩) (Nat.le_refl _) _).setCell (p := ⟨w.heap.size, 1, none⟩) (Nat.le_refl _) _)
  · have hl2 : 1 < bs.length := by omega
    obtain ⟨b1, hb1⟩ : ∃ b1, bs[1]? = some b1 := ⟨_, List.getElem?_eq_getElem hl2⟩
    have c1 := hcs 1 (.string b1) (by simp [hb1])
    have hs1 : b1.size ≤ 65536 := by
      have hm : b1.data.toList ∈ bs.map (·.data.toList) := List.mem_map_of_mem (List.mem_of_getElem? hb1)
      have := word_len hm
      rw [← Lib.size_eq] at this
      omega
    have Ha := Lib.hid (Hb.out.alloc (by simp) (.cells #[.int .i64 (opOfF b0), .int .i64 0] 25))
    have HA := Lib.hid (fun w hE => atoi_any b1 (by omega) w hE)
    have q0 : ((bs.length : Int) == 0) = false := beq_eq_false_iff_ne.2 (by omega)
    have q1 : (1 : Int) < (bs.length : Int) := by omega
    have Hb1 := Lib.hid hb1
    clear h0 h1 hz hT hP hE hcs hb1
    go_enter Tryd.func43, Tryd.ntmps43
    go_wp2_with (go_at_call 21; refine (opOf_any _ _ (HT.out.below Hb.out (Nat.le_refl _))).mono ?_; rintro e w' ⟨rfl, rfl⟩)
    refine (HA.out _ (HE.out.below Ha.out (Nat.le_refl _))).mono ?_
    rintro e w2 ⟨v, er, rfl, hav, hb2⟩
    obtain ⟨M0, M1⟩ := two_blocks hb2
    have hz2 : w.heap.size + 1 < w2.heap.size := by have := hb2.size; simp at this; omega
    have Hb2 := Lib.hid (Ha.out.trans (hb2.mono Ha.out.size))
    have hv := fun (k : Nat) (a : Int) (hok : okB (k : Int) a = true) (e : bs.map (·.data.toList) = wl k a) => hav a (ok_rng hok).1 (ok_rng hok).2 (wl_two Hb1.out e)
    have HX := Lib.hid (fun w hT hP => instrText_any (opOfF b0) v w hT hP)
    have Hc := Lib.hid (Hb2.out.setCell (p := ⟨w.heap.size + 1, 1, none⟩) (Nat.le_succ _) (.int .i64 v))
    have L1 := Lib.hid (heap_set2 M1 1 (.int .i64 v))
    have L0 := Lib.hid ((heap_setCell_other w2 ⟨w.heap.size + 1, 1, none⟩ w.heap.size (.int .i64 v) (by simp)).trans M0)
    obtain ⟨m0, m1, n0, n1⟩ := blk_cs2 M1
    clear hb2 hav M0 M1
    go_wp2_with fail
    cases hok : okB (opOfF b0) v
    · have H := Lib.hid (fun w' hb => ins_fin (w := w) (w' := w') (res_bad Hb0.out hv hok) hb)
      have hx := txt_out hok
      rw [hx.1, hx.2] at HX
      clear hok hx hv
      refine (HX.out _ (HT.out.below Hc.out (Nat.le_refl _)) (HP.out.below Hc.out (Nat.le_refl _))).mono ?_
      rintro e w3 ⟨rfl, hb3⟩
      have K0 := (hb3.block w.heap.size (by simp; omega)).trans L0.out
      have K1 := (hb3.block (w.heap.size + 1) (by simp; omega)).trans L1.out
      have hz3 : w.heap.size + 1 < w3.heap.size := by have := hb3.size; simp at this; omega
      have Hb3 := Lib.hid (Hc.out.trans (hb3.mono Hc.out.size))
      clear hb3
      obtain ⟨c2, c3, f2, f3⟩ := blk_cs2 K0
      go_wp2
      refine bodyPost_ret (v := .tuple #[.agg #[.int .i64 0, .int .i64 0], .int .i64 3]) (by simp [results, Tryd.results43, go_sem, c2, c3]) rfl ?_
      exact H.out _ ((Hb3.out.setCell (p := ⟨w.heap.size, 0, none⟩) (Nat.le_refl _) _).setCell (p := ⟨w.heap.size, 1, none⟩) (Nat.le_refl _) _)
    · have hx := txt_in' hok
      rw [hx] at HX
      have htl := txt_len (opOfF b0) v
      by_cases hj : txtF (opOfF b0) v = Lib.join (bs.map (·.data.toList)) [32]
      · have H := Lib.hid (fun w' hb => ins_fin (w := w) (w' := w') (res_yes hw hok hj) hb)
        have hq : (txtF (opOfF b0) v == Lib.join (bs.map (·.data.toList)) [32]) = true := beq_iff_eq.2 hj
        have HQ := Lib.hid hq
        clear hok hx hv hj hq
        generalize txtF (opOfF b0) v = X at *
        refine (HX.out _ (HT.out.below Hc.out (Nat.le_refl _)) (HP.out.below Hc.out (Nat.le_refl _))).mono ?_
        rintro e w3 ⟨rfl, hb3⟩
        have K0 := (hb3.block w.heap.size (by simp; omega)).trans L0.out
        have K1 := (hb3.block (w.heap.size + 1) (by simp; omega)).trans L1.out
        have hz3 : w.heap.size + 1 < w3.heap.size := by have := hb3.size; simp at this; omega
        have Hb3 := Lib.hid (Hc.out.trans (hb3.mono Hc.out.size))
        clear hb3
        have hq2 := HQ.out
        have hq3 : (!(X == Lib.join (bs.map (·.data.toList)) [32])) = false := by rw [HQ.out]; rfl
        go_wp2_with fail
        refine (HJ.out _ Hb3.out (Nat.lt_of_lt_of_le hbl Hb3.out.size)).mono ?_
        rintro e w4 ⟨rfl, hb4⟩
        have Hb4 := Lib.hid (Hb3.out.trans (hb4.mono Hb3.out.size))
        have K0' := (hb4.block w.heap.size (by omega)).trans K0
        have K1' := (hb4.block (w.heap.size + 1) hz3).trans K1
        clear hb4
        obtain ⟨c2, c3, f2, f3⟩ := blk_cs2 K0'
        obtain ⟨d2, d3, g2, g3⟩ := blk_cs2 K1'
        go_wp2
        refine bodyPost_ret (v := .tuple #[.agg #[.int .i64 (opOfF b0), .int .i64 v], .int .i64 0]) (by simp [results, Tryd.results43, go_sem, c2, c3]) rfl ?_
        exact H.out _ ((Hb4.out.setCell (p := ⟨w.heap.size, 0, none⟩) (Nat.le_refl _) _).setCell (p := ⟨w.heap.size, 1, none⟩) (Nat.le_refl _) _)
      · have H := Lib.hid (fun w' hb => ins_fin (w := w) (w' := w') (res_other Hb0.out hv hj) hb)
        have hq : (txtF (opOfF b0) v == Lib.join (bs.map (·.data.toList)) [32]) = false := beq_eq_false_iff_ne.2 hj
        have HQ := Lib.hid hq
        clear hok hx hv hj hq
        generalize txtF (opOfF b0) v = X at *
        refine (HX.out _ (HT.out.below Hc.out (Nat.le_refl _)) (HP.out.below Hc.out (Nat.le_refl _))).mono ?_
        rintro e w3 ⟨rfl, hb3⟩
        have K0 := (hb3.block w.heap.size (by simp; omega)).trans L0.out
        have K1 := (hb3.block (w.heap.size + 1) (by simp; omega)).trans L1.out
        have hz3 : w.heap.size + 1 < w3.heap.size := by have := hb3.size; simp at this; omega
        have Hb3 := Lib.hid (Hc.out.trans (hb3.mono Hc.out.size))
        clear hb3
        have hq2 := HQ.out
        have hq3 : (!(X == Lib.join (bs.map (·.data.toList)) [32])) = true := by rw [HQ.out]; rfl
        go_wp2_with fail
        refine (HJ.out _ Hb3.out (Nat.lt_of_lt_of_le hbl Hb3.out.size)).mono ?_
        rintro e w4 ⟨rfl, hb4⟩
        have Hb4 := Lib.hid (Hb3.out.trans (hb4.mono Hb3.out.size))
        have K0' := (hb4.block w.heap.size (by omega)).trans K0
        have K1' := (hb4.block (w.heap.size + 1) hz3).trans K1
        clear hb4
        obtain ⟨c2, c3, f2, f3⟩ := blk_cs2 K0'
        go_wp2
        refine bodyPost_ret (v := .tuple #[.agg #[.int .i64 0, .int .i64 0], .int .i64 3]) (by simp [results, Tryd.results43, go_sem, c2, c3]) rfl ?_
        exact H.out _ ((Hb4.out.setCell (p := ⟨w.heap.size, 0, none⟩) (Nat.le_refl _) _).setCell (p := ⟨w.heap.size, 1, none⟩) (Nat.le_refl _) _)
end Go.Proofs.YtnokkkmokfojnaaDoor
