/- The words of a text, of impl and of spec; two lists of texts compared. -/
import Derived.Test.YtnokkkmokfojnaaDoorWordsM
import Derived.Test.YtnokkkmokfojnaaDoorRow
import Derived.Test.YtnokkkmokfojnaaDoorOps
import Derived.Test.YtnokkkmokfojnaaDoorDig
import Derived.Test.YtnokkkmokfojnaaDoorCodeI
import Derived.Test.YtnokkkmokfojnaaDoorShelf
import Derived.WalkSpells
import Derived.PlainAid
import Derived.Deep.DeepMust
import Derived.Deep.QuietTactic
import Derived.BigQuiet
import Derived.Outline
namespace Go.Proofs.YtnokkkmokfojnaaDoor
open Go.ChangeShapes Go.WideShapes Go.ChangeAt Go.RowKit Go.PlainAid
theorem own_slc {w : World} {B size n : Nat} {e : TypeId} {v : Value} {xs : List Value} (h : w.ownsRow B e size v n xs) : ∃ a c, v = .slice a n c := by
  rcases h.2 with ⟨rfl, rfl⟩ | ⟨g, cap, cur, rfl, _⟩
  · exact ⟨_, _, rfl⟩
  · exact ⟨_, _, rfl⟩
theorem cell_one_nw (w : World) (x : Value) (t : TypeId) : ∀ (j : Nat) u, [x][j]? = some u → (w.alloc (.cells #[x] t)).cell? ((⟨w.heap.size, 0, none⟩ : Addr).add j) = some u := by
  intro j u hj
  match j, hj with
  | 0, hj => simp at hj; subst hj; exact cell_of_row _ _ 0 _ _ _ (heap_alloc_new w _)
  | j + 1, hj => simp at hj
theorem isSp_any (n : Nat) (W : World) : Calls Tryd.prog 67 #[.int .i32 (n : Int)] W fun e w' => e = .returned (.bool (isSp n)) ∧ ∃ q, w' = W.drewN q := by
  have h : ((n : Int) == 32) = isSp n := by unfold isSp; rw [Bool.eq_iff_iff]; simp; omega
  have H := Lib.hid h
  clear h
  go_enter Tryd.func67, Tryd.ntmps67
  go_wp2
  go_ret
  exact ⟨ret_b1 H.out, 0, rfl⟩
theorem isSp_enters (args : Array Value) (w : World) : (callFunc 67 args).run Tryd.prog w = .ok (.enter 67 args) w := by
  obtain ⟨c, hc⟩ := Option.isSome_iff_exists.1 (show (Tryd.f67.body).isSome = true by kernel_rfl)
  exact enters_of Tryd.func67 (by kernel_rfl) hc args w
theorem wordsOf_any (s : ByteArray) (hs : s.size ≤ 65536) (w : World) :
    Calls Tryd.prog 44 #[.string s] w fun e w' => ∃ A, e = .returned (.slice (some ⟨A, 0, none⟩) (wordsB s).length (wordsB s).length) ∧ w'.ownsRow w.heap.size 9 1 (.slice (some ⟨A, 0, none⟩) (wordsB s).length (wordsB s).length) (wordsB s).length ((wordsB s).map Value.string) ∧ Below w.heap.size w w' := by
  have HF := Lib.hid (fun w => Tryd.strings_FieldsFunc 67 #[] isSp_enters isSp s w (by omega) (fun W x _ => isSp_any x W))
  have HW := Lib.hid (fields_words s)
  go_enter Tryd.func44, Tryd.ntmps44
  go_wp2_with fail
  refine (HF.out _).mono ?_
  rintro e w1 ⟨A, rfl, _, ho, hb⟩
  rw [HW.out] at ho ⊢
  have Ho := Lib.hid ho
  have Hb := Lib.hid hb
  clear ho hb
  go_wp2
  go_ret
  exact ⟨A, rfl, Ho.out, Hb.out⟩
/-- Where the second reader of words stands. -/
def WAt (s : ByteArray) (k f : Nat) (bs : List ByteArray) : Prop :=
  (k ≤ s.size ∧ f ≤ k ∧ wordsL s.data.toList = bs.map (·.data.toList) ++ wgo (Lib.pieceU s.data.toList f k) (s.data.toList.drop k)) ∨ (k = s.size + 1 ∧ wordsL s.data.toList = bs.map (·.data.toList))
theorem wAt_zero (s : ByteArray) : WAt s 0 0 [] := .inl ⟨Nat.zero_le _, Nat.le_refl _, by simp [wordsL, Lib.pieceU]⟩
theorem ext_list (s : ByteArray) (a b : Nat) : (s.extract a b).data.toList = Lib.pieceU s.data.toList a b := by simp [Lib.pieceU]
theorem WAt.other {s : ByteArray} {k f : Nat} {bs : List ByteArray} (h : WAt s k f bs) (hk : k < s.size) (hc : bt s k ≠ 32) : WAt s (k + 1) f bs := by
  rcases h with ⟨_, hf, e⟩ | ⟨rfl, _⟩
  · refine .inl ⟨hk, by omega, ?_⟩
    have hne : s.get! k ≠ 32 := by
      intro h0
      apply hc
      unfold bt
      rw [dif_pos hk]
      have : s.get! k = s[k] := by
        show s.data[k]! = s.data[k]
        rw [getElem!_pos s.data k hk]
      rw [this] at h0
      rw [h0]
      rfl
    rw [e, get_drop s k hk, wgo, if_neg hne]
    have := Lib.pieceU_grow s.data.toList f k 1 hf
    rw [get_drop s k hk] at this
    simp at this
    rw [this]
  · omega
theorem bt_space {s : ByteArray} {k : Nat} (hk : k < s.size) (hc : bt s k = 32) : s.get! k = 32 := by
  unfold bt at hc
  rw [dif_pos hk] at hc
  have e : s.get! k = s[k] := by
    show s.data[k]! = s.data[k]
    rw [getElem!_pos s.data k hk]
  rw [e]
  apply UInt8.toNat_inj.1
  have : (s[k].toNat : Int) = 32 := hc
  show s[k].toNat = 32
  omega
/-- At a space, or at the end: with something open .. -/
theorem WAt.close {s : ByteArray} {k f : Nat} {bs : List ByteArray} (h : WAt s k f bs) (hk : k ≤ s.size) (hc : k < s.size → bt s k = 32) (hf : f < k) : WAt s (k + 1) (k + 1) (bs ++ [s.extract f k]) := by
  rcases h with ⟨_, _, e⟩ | ⟨rfl, _⟩
  · have hp := Lib.pieceU_ne s.data.toList f k hf (by rw [← Lib.size_eq]; exact hk)
    by_cases hlt : k < s.size
    · refine .inl ⟨by omega, Nat.le_refl _, ?_⟩
      rw [e, get_drop s k hlt, bt_space hlt (hc hlt), wgo_space, if_neg hp, List.map_append, List.append_assoc]
      simp [Lib.pieceU]
    · obtain rfl : k = s.size := by omega
      refine .inr ⟨rfl, ?_⟩
      have hd : s.data.toList.drop s.size = [] := List.drop_eq_nil_of_le (by rw [← Lib.size_eq]; exact Nat.le_refl _)
      rw [e, hd, wgo, if_neg hp, List.map_append]
      simp [Lib.pieceU]
  · omega
/-- .. and with nothing open. -/
theorem WAt.skip {s : ByteArray} {k f : Nat} {bs : List ByteArray} (h : WAt s k f bs) (hk : k ≤ s.size) (hc : k < s.size → bt s k = 32) (hf : ¬ f < k) : WAt s (k + 1) (k + 1) bs := by
  rcases h with ⟨_, hfk, e⟩ | ⟨rfl, _⟩
  · obtain rfl : f = k := by omega
    have hp : Lib.pieceU s.data.toList f f = [] := by simp [Lib.pieceU]
    by_cases hlt : f < s.size
    · refine .inl ⟨by omega, Nat.le_refl _, ?_⟩
      rw [e, get_drop s f hlt, bt_space hlt (hc hlt), wgo_space, if_pos hp]
      simp [Lib.pieceU]
    · obtain rfl : f = s.size := by omega
      refine .inr ⟨rfl, ?_⟩
      have hd : s.data.toList.drop s.size = [] := List.drop_eq_nil_of_le (by rw [← Lib.size_eq]; exact Nat.le_refl _)
      rw [e, hd, wgo, if_pos hp, List.append_nil]
  · omega
theorem WAt.fin {s : ByteArray} {k f : Nat} {bs : List ByteArray} (h : WAt s k f bs) (hk : ¬ k ≤ s.size) : bs = wordsB s := by
  rcases h with ⟨h1, _⟩ | ⟨_, e⟩
  · omega
  · unfold wordsB
    rw [e, List.map_map]
    have : (fun l : List UInt8 => (⟨l.toArray⟩ : ByteArray)) ∘ (fun b : ByteArray => b.data.toList) = id := funext fun b => bytes_inj (by simp)
    rw [this, List.map_id]
def WordsPost (s : ByteArray) (w : World) (e : Ending) (w' : World) : Prop :=
  ∃ (a : Option Addr) (c : Nat), e = .returned (.slice a (wordsB s).length c) ∧ w'.ownsRow w.heap.size 9 1 (.slice a (wordsB s).length c) (wordsB s).length ((wordsB s).map Value.string) ∧ Below w.heap.size w w'
theorem words_fin {s : ByteArray} {k f n c : Nat} {a : Option Addr} {bs : List ByteArray} {w w' : World} (h : WAt s k f bs) (hk : ¬ k ≤ s.size) (hn : bs.length = n) (ho : w'.ownsRow w.heap.size 9 1 (.slice a n c) n (bs.map Value.string)) (hb : Below w.heap.size w w') : WordsPost s w (.returned (.slice a n c)) w' := by
  subst hn
  obtain rfl := h.fin hk
  exact ⟨a, c, rfl, ho, hb⟩
set_option maxHeartbeats 1000000 in
set_option maxRecDepth 100000 in
theorem l00Words_any (s : ByteArray) (hs : s.size ≤ 1000000) (w : World) : Calls Tryd.prog 68 #[.string s] w (WordsPost s w) := by
  have hg := get_bt s
  obtain ⟨i0, hi, hz0, hz1, hz2⟩ := info_parts (show (Tryd.prog.info? 9).map (fun i => (i.zero, i.size, i.bytes)) = some (some (.string ⟨#[]⟩), 1, 16) by kernel_rfl)
  have HI := Lib.hid (And.intro hi (And.intro hz0 (And.intro hz1 hz2)))
  clear hi hz0 hz1 hz2
  go_enter Tryd.func68, Tryd.ntmps68
  go_wp2
  go_loopw [3, 4, 5] (fun v g i wr => ∃ (k f n c : Nat) (a : Option Addr) (bs : List ByteArray), k ≤ s.size + 1 ∧ f ≤ k ∧ n ≤ k ∧ i = .int .i64 k ∧ g = .int .i64 f ∧ v = .slice a n c ∧ Hid (bs.length = n) ∧ Hid (WAt s k f bs) ∧ Hid (wr.ownsRow w.heap.size 9 1 (.slice a n c) n (bs.map Value.string)) ∧ Hid (Below w.heap.size w wr)) (fun _ _ i _ => s.size + 1 - (intOf i).toNat)
  case atStart => exact ⟨0, 0, 0, 0, some ⟨w.heap.size, 0, none⟩, [], Nat.zero_le _, Nat.le_refl _, Nat.le_refl _, rfl, rfl, rfl, Lib.hid rfl, Lib.hid (wAt_zero s), Lib.hid (World.ownsRow_lit w #[] 0 (Nat.le_refl _) (Nat.zero_le _) rfl), Lib.hid ((Below.refl _ _).alloc (Nat.le_refl _) _)⟩
  case round =>
    obtain ⟨k, f, n, c, a, bs, hk, hf, hn, rfl, rfl, rfl, hl, hr, ho, hb⟩ := hrel
    have hB := hb.out.size
    by_cases hle : k ≤ s.size
    · by_cases hsp : k < s.size ∧ bt s k ≠ 32
      · obtain ⟨hlt, hne⟩ := hsp
        have hst := Lib.hid (hr.out.other hlt hne)
        have hq : ((k : Int) == (s.size : Int)) = false := beq_eq_false_iff_ne.2 (by omega)
        have hq2 : (bt s k == 32) = false := beq_eq_false_iff_ne.2 hne
        have hki : (k : Int) < s.size := by omega
        clear hne
        go_wp2
        go_roundw
        case rel => exact ⟨k + 1, f, n, c, a, bs, by omega, by omega, by omega, by go_num, rfl, rfl, hl, hst, ho, hb⟩
        case measure => simp [intOf]; omega
      · have hc : k < s.size → bt s k = 32 := fun h => Decidable.byContradiction fun h0 => hsp ⟨h, h0⟩
        by_cases hfk : f < k
        · have hst := Lib.hid (hr.out.close hle hc hfk)
          obtain ⟨H1, H2, H3, H4⟩ := HI.out
          clear hsp
          by_cases hend : k = s.size
          · have hq : ((k : Int) == (s.size : Int)) = true := beq_iff_eq.2 (by omega)
            have hki : (k : Int) ≤ s.size := by omega
            clear hc hend
            go_wp2_with (at_builtin; go_must (refine wpList_append_own _ rfl (.tmp 26) (.tmp 31) _ rfl w.heap.size 9 i0 _ 1 16 Tryd.underlying59 H1 H2 H3 H4 rfl (by decide) (.slice a n c) n (bs.map Value.string) rfl (ho.out.alloc _) ⟨wr.heap.size, 0, none⟩ 1 1 [.string (s.extract f k)] rfl rfl (cell_one_nw wr _ _) (by simp [Value.oneCell']) (by unfold maxLen; omega) (by omega) (by simp; omega) ?_); intro v3 w3 g3 g4 _; have Hb3 := Lib.hid ((hb.out.alloc hB _).grown g4 (by simp; omega) (fun q hq => (ho.out.lt q hq).1)); obtain ⟨a3, c3, hv3⟩ := own_slc g3; subst hv3; have Ho3 := Lib.hid g3; clear g3 g4)
            have Ho4 : Hid (w3.ownsRow w.heap.size 9 1 (.slice a3 (n + 1) c3) (n + 1) ((bs ++ [s.extract f k]).map Value.string)) := Lib.hid (own_cast Ho3.out rfl (by simp))
            have Hl4 : Hid ((bs ++ [s.extract f k]).length = n + 1) := Lib.hid (by simp [hl.out])
            clear Ho3
            go_roundw
            case rel => exact ⟨k + 1, k + 1, n + 1, c3, a3, bs ++ [s.extract f k], by omega, by omega, by omega, by go_num, by go_num, rfl, Hl4, hst, Ho4, Hb3⟩
            case measure => simp [intOf]; omega
          · have hq : ((k : Int) == (s.size : Int)) = false := beq_eq_false_iff_ne.2 (by omega)
            have hlt : k < s.size := by omega
            have hki : (k : Int) < s.size := by omega
            have hq2 : (bt s k == 32) = true := beq_iff_eq.2 (hc hlt)
            clear hc hend
            go_wp2_with (at_builtin; go_must (refine wpList_append_own _ rfl (.tmp 26) (.tmp 31) _ rfl w.heap.size 9 i0 _ 1 16 Tryd.underlying59 H1 H2 H3 H4 rfl (by decide) (.slice a n c) n (bs.map Value.string) rfl (ho.out.alloc _) ⟨wr.heap.size, 0, none⟩ 1 1 [.string (s.extract f k)] rfl rfl (cell_one_nw wr _ _) (by simp [Value.oneCell']) (by unfold maxLen; omega) (by omega) (by simp; omega) ?_); intro v3 w3 g3 g4 _; have Hb3 := Lib.hid ((hb.out.alloc hB _).grown g4 (by simp; omega) (fun q hq => (ho.out.lt q hq).1)); obtain ⟨a3, c3, hv3⟩ := own_slc g3; subst hv3; have Ho3 := Lib.hid g3; clear g3 g4)
            have Ho4 : Hid (w3.ownsRow w.heap.size 9 1 (.slice a3 (n + 1) c3) (n + 1) ((bs ++ [s.extract f k]).map Value.string)) := Lib.hid (own_cast Ho3.out rfl (by simp))
            have Hl4 : Hid ((bs ++ [s.extract f k]).length = n + 1) := Lib.hid (by simp [hl.out])
            clear Ho3
            go_roundw
            case rel => exact ⟨k + 1, k + 1, n + 1, c3, a3, bs ++ [s.extract f k], by omega, by omega, by omega, by go_num, by go_num, rfl, Hl4, hst, Ho4, Hb3⟩
            case measure => simp [intOf]; omega
        · have hst := Lib.hid (hr.out.skip hle hc hfk)
          clear hsp
          by_cases hend : k = s.size
          · have hq : ((k : Int) == (s.size : Int)) = true := beq_iff_eq.2 (by omega)
            clear hc hend
            go_wp2
            go_roundw
            case rel => exact ⟨k + 1, k + 1, n, c, a, bs, by omega, by omega, by omega, by go_num, by go_num, rfl, hl, hst, ho, hb⟩
            case measure => simp [intOf]; omega
          · have hq : ((k : Int) == (s.size : Int)) = false := beq_eq_false_iff_ne.2 (by omega)
            have hlt : k < s.size := by omega
            have hki : (k : Int) < s.size := by omega
            have hq2 : (bt s k == 32) = true := beq_iff_eq.2 (hc hlt)
            clear hc hend
            go_wp2
            go_roundw
            case rel => exact ⟨k + 1, k + 1, n, c, a, bs, by omega, by omega, by omega, by go_num, by go_num, rfl, hl, hst, ho, hb⟩
            case measure => simp [intOf]; omega
    · have H := Lib.hid (fun (_ : True) => words_fin hr.out hle hl.out ho.out hb.out)
      go_wp2
      go_ret
      exact H.out trivial
def strC (b : ByteArray) : List Value := [.string b]
theorem strC_len (b : ByteArray) : (strC b).length = 1 := rfl
theorem flat_str (bs : List ByteArray) : flat strC bs = bs.map Value.string := by
  induction bs with
  | nil => rfl
  | cons b t ih => rw [flat_cons, ih]; rfl
theorem str_at {w : World} {b o : Nat} {bs : List ByteArray} (h : ∀ (j : Nat) v, (bs.map Value.string)[j]? = some v → w.cell? ⟨b, o + j, none⟩ = some v) {i : Nat} (hi : i < bs.length) : w.cell? ⟨b, o + i, none⟩ = some (.string (bs.getD i ⟨#[]⟩)) :=
  h i _ (by simp [List.getD, hi])
theorem list_eq_of {bs cs : List ByteArray} (hl : bs.length = cs.length) (h : ∀ k, k < bs.length → ((bs.getD k ⟨#[]⟩).toList == (cs.getD k ⟨#[]⟩).toList) = true) : bs = cs := by
  apply List.ext_getElem hl
  intro i h1 h2
  have := eq_of_beq (h i h1)
  rw [ByteArray.toList_eq, ByteArray.toList_eq] at this
  have e := bytes_inj this
  simpa [List.getD, h1, h2] using e
theorem list_ne_of {bs cs : List ByteArray} {k : Nat} (h : ((bs.getD k ⟨#[]⟩).toList == (cs.getD k ⟨#[]⟩).toList) = false) : ¬ bs = cs := by
  rintro rfl
  simp at h
theorem l00SameTexts_any (bs cs : List ByteArray) (a b : Option Addr) (c d : Nat) (hn : bs.length ≤ 1048576) (w : World) (hz : Lies w a (bs.map Value.string)) (hy : Lies w b (cs.map Value.string)) :
    Calls Tryd.prog 70 #[.slice a bs.length c, .slice b cs.length d] w fun e w' => e = .returned (.bool (decide (bs = cs))) ∧ Below w.heap.size w w' := by
  by_cases hne : bs.length = cs.length
  · have Hz := Lib.hid hz
    have Hy := Lib.hid hy
    clear hz hy
    rw [← hne]
    generalize hL : bs.length = n at *
    have HL := Lib.hid hL
    have HM := Lib.hid hne
    clear hL hne
    have hs : ((n : Int) != n) = false := by simp
    go_enter Tryd.func70, Tryd.ntmps70
    go_wp2
    go_loopw [5] (fun i wr => ∃ k : Nat, k ≤ n ∧ i = .int .i64 k ∧ Hid (∀ j, j < k → ((bs.getD j ⟨#[]⟩).toList == (cs.getD j ⟨#[]⟩).toList) = true) ∧ Hid (Below w.heap.size w wr)) (fun i _ => n - (intOf i).toNat)
    case atStart => exact ⟨0, Nat.zero_le _, rfl, Lib.hid (by intro j hj; omega), Lib.hid (Below.refl _ _)⟩
    case round =>
      obtain ⟨k, hk, rfl, hr, hb⟩ := hrel
      by_cases hlt : k < n
      · obtain ⟨b1, o1, rfl, hb1, hc1⟩ := Hz.out.open (by rw [List.length_map, HL.out]; omega)
        obtain ⟨b2, o2, rfl, hb2, hc2⟩ := Hy.out.open (by rw [List.length_map, ← HM.out]; omega)
        have d0 := (hb.out.cell (p := ⟨b1, o1 + k, none⟩) hb1).trans (str_at hc1 (i := k) (by rw [HL.out]; exact hlt))
        have d1 := (hb.out.cell (p := ⟨b2, o2 + k, none⟩) hb2).trans (str_at hc2 (i := k) (by rw [← HM.out]; exact hlt))
        clear hc1 hc2
        have hki : (k : Int) < n := by omega
        cases he : ((bs.getD k ⟨#[]⟩).toList == (cs.getD k ⟨#[]⟩).toList)
        · have H := Lib.hid (decide_eq_false (list_ne_of he))
          generalize bs.getD k ⟨#[]⟩ = x at *
          generalize cs.getD k ⟨#[]⟩ = y at *
          go_wp2
          go_quiet (fail)
          have Hb2 := Lib.hid (below_dn hb.out nq)
          go_wp2
          go_ret
          exact ⟨ret_b1 (by rw [H.out]), Hb2.out⟩
        · have hx : Hid (∀ j, j < k + 1 → ((bs.getD j ⟨#[]⟩).toList == (cs.getD j ⟨#[]⟩).toList) = true) := Lib.hid (fun j hj => by
            by_cases e : j = k
            · rw [e]; exact he
            · exact hr.out j (by omega))
          generalize hX : bs.getD k ⟨#[]⟩ = x at *
          have HX := Lib.hid hX
          generalize hY : cs.getD k ⟨#[]⟩ = y at *
          have HY := Lib.hid hY
          clear hX hY
          go_wp2
          go_quiet (fail)
          have Hb2 := Lib.hid (below_dn hb.out nq)
          go_wp2
          go_roundw
          case rel => exact ⟨k + 1, by omega, by go_num, hx, Hb2⟩
          case measure => simp [intOf]; omega
      · obtain rfl : k = n := by omega
        have H := Lib.hid (decide_eq_true (list_eq_of (HL.out.trans HM.out) (fun j hj => hr.out j (by rw [← HL.out]; exact hj))))
        go_wp2
        go_ret
        exact ⟨ret_b1 (by rw [H.out]), hb.out⟩
  · have H := Lib.hid (decide_eq_false (show ¬ bs = cs from fun e => hne (by rw [e])))
    have hs : ((bs.length : Int) != cs.length) = true := by rw [bne_iff_ne]; omega
    clear hz hy hne
    generalize bs.length = n at *
    generalize cs.length = m at *
    go_enter Tryd.func70, Tryd.ntmps70
    go_wp2
    go_ret
    exact ⟨ret_b1 (by rw [H.out]), Below.refl _ _⟩
end Go.Proofs.YtnokkkmokfojnaaDoor
