/- spec's list of open loops. -/
import Derived.Test.YtnehaidkhpjpbaaDoorPlc
import Derived.Test.YtnehaidkhpjpbaaDoorMatch
import Derived.Test.YtnehaidkhpjpbaaDoorOwn
namespace Go.Proofs.YtnehaidkhpjpbaaDoor
open Go.ChangeShapes Go.WideShapes Go.ChangeAt Go.RowKit
set_option linter.unusedVariables false
/-- The loops among the first j that are open at n. -/
def loopsN (zs : List Ins) (n j : Nat) : List Int := (List.range j).filterMap fun i => if (zs.getD i (0, 0)).1 = 24 then (if endGe zs i n then some (zs.getD i (0, 0)).2 else none) else none
theorem loopsN_step (zs : List Ins) (n j : Nat) : loopsN zs n (j + 1) = loopsN zs n j ++ (if (zs.getD j (0, 0)).1 = 24 then (if endGe zs j n then [(zs.getD j (0, 0)).2] else []) else []) := by
  unfold loopsN
  rw [List.range_succ, List.filterMap_append]
  congr 1
  by_cases h1 : (zs.getD j (0, 0)).1 = 24
  · by_cases h2 : endGe zs j n = true
    · simp only [h1, h2, List.filterMap_cons, List.filterMap_nil, if_true]
    · simp only [h1, h2, List.filterMap_cons, List.filterMap_nil, if_true, if_false, Bool.false_eq_true]
  · simp only [h1, List.filterMap_cons, List.filterMap_nil, if_false]
theorem loopsN_len (zs : List Ins) (n j : Nat) : (loopsN zs n j).length ≤ j := by
  unfold loopsN
  have := List.length_filterMap_le (fun i => if (zs.getD i (0, 0)).1 = 24 then (if endGe zs i n then some (zs.getD i (0, 0)).2 else none) else none) (List.range j)
  simpa using this
theorem kC_snoc' (l : List Int) (x : Int) : kC l ++ [.int .i64 x] = kC (l ++ [x]) := by simp [kC]
theorem endGe_of {zs : List Ins} {i n : Nat} {o e : Int} (h : vMatch zs i = some (o, e)) : endGe zs i n = decide ((n : Int) ≤ e) := by unfold endGe; rw [h]
theorem one_at' (w : World) {b : Nat} (hb : b = w.heap.size) (a : Value) (t : TypeId) : ∀ j u, [a][j]? = some u → (w.alloc (.cells #[a] t)).cell? ((⟨b, 0, none⟩ : Addr).add j) = some u := by
  subst hb
  intro j u hj
  cases j with
  | zero =>
    simp only [List.getElem?_cons_zero, Option.some.injEq] at hj
    subst hj
    exact cell_of_row _ _ 0 _ _ _ (heap_alloc_new w _)
  | succ j => simp at hj
def OpnPost (zs : List Ins) (p : Nat) (w : World) (e : Ending) (w' : World) : Prop := ∃ a c, e = .returned (.slice a (loopsL zs p).length c) ∧ w'.ownsRow w.heap.size 3 1 (.slice a (loopsL zs p).length c) (loopsL zs p).length (kC (loopsL zs p)) ∧ Below w.heap.size w w'
set_option maxRecDepth 100000 in
set_option maxHeartbeats 2000000 in
theorem l07Open_any (zs : List Ins) (a : Option Addr) (c p : Nat) (hn : zs.length ≤ 40) (hp : p ≤ zs.length) (hM : ∀ k, k < zs.length → opens zs k → ∃ o e, vMatch zs k = some (o, e) ∧ MOK zs k o e) (w : World) (hz : Lies w a (flat insC zs)) :
    Calls Tryd.prog 148 #[.slice a zs.length c, .int .i64 p] w (OpnPost zs p w) := by
  obtain ⟨i0, hi, hz0, hz1, hz2⟩ := info_parts (show (Tryd.prog.info? 3).map (fun i => (i.zero, i.size, i.bytes)) = some (some (.int .i64 0), 1, 8) by kernel_rfl)
  have HI := Lib.hid (And.intro hi (And.intro hz0 (And.intro hz1 hz2)))
  clear hi hz0 hz1 hz2
  have HZ := Lib.hid hz
  have HMM := Lib.hid hM
  have HMF := Lib.hid (fun k hk w hz => l04Match_any zs a c k hk (by omega) w hz)
  have HST := Lib.hid (fun j => loopsN_step zs p j)
  have HLN := Lib.hid (fun j => loopsN_len zs p j)
  have HP : Hid (∀ a' c' n' w', n' = (loopsN zs p p).length → w'.ownsRow w.heap.size 3 1 (.slice a' n' c') n' (kC (loopsN zs p p)) → Below w.heap.size w w' → OpnPost zs p w (.returned (.slice a' n' c')) w') := Lib.hid (fun a' c' n' w' h0 h1 h2 => by
    subst h0
    exact ⟨a', c', rfl, h1, h2⟩)
  have HEG := Lib.hid (fun i o e (h : vMatch zs i = some (o, e)) => @endGe_of zs i p o e h)
  clear hz hM
  generalize OpnPost zs p w = POST at *
  generalize hL : zs.length = n at *
  have HL := Lib.hid hL
  clear hL
  go_enter Tryd.func148, Tryd.ntmps148
  go_wp2
  go_loopw [5, 6] (fun v i wr => ∃ j m c' : Nat, ∃ a' : Option Addr, j ≤ p ∧ v = .slice a' m c' ∧ i = .int .i64 j ∧ Hid (m = (loopsN zs p j).length) ∧ Hid (wr.ownsRow w.heap.size 3 1 (.slice a' m c') m (kC (loopsN zs p j))) ∧ Hid (Below w.heap.size w wr)) (fun _ i _ => p - (intOf i).toNat)
  case atStart => exact ⟨0, 0, 0, some ⟨w.heap.size, 0, none⟩, Nat.zero_le _, rfl, rfl, Lib.hid rfl, Lib.hid (World.ownsRow_lit w #[] 0 (Nat.le_refl _) (Nat.zero_le _) rfl), Lib.hid ((Below.refl _ _).alloc (Nat.le_refl _) _)⟩
  case round =>
    obtain ⟨j, m, c', a', hj, rfl, rfl, hm, ho, hb⟩ := hrel
    by_cases hlt : j < p
    · have hjn : j < n := by omega
      have hjni : (j : Int) < n := by omega
      have HZZ := HZ
      obtain ⟨b, o, rfl, hbl, hcs⟩ := HZ.out.open (by rw [flat_len insC_len, HL.out]; omega)
      obtain ⟨c0, c1⟩ := ins_at hcs (i := j) (by rw [HL.out]; exact hjn)
      have d0 := (hb.out.cell (p := ⟨b, o + j * 2, none⟩) hbl).trans c0
      have d1 := (hb.out.cell (p := ⟨b, o + j * 2 + 1, none⟩) hbl).trans c1
      have HSJ := Lib.hid (HST.out j)
      have HMJ := Lib.hid (HMF.out j hjn wr (HZZ.out.below hb.out (Nat.le_refl _)))
      have HOP : Hid ((zs.getD j (0, 0)).1 = 24 → opens zs j) := Lib.hid (fun h => .inr h)
      have HMK := Lib.hid (HMM.out j hjn)
      have hml := HLN.out j
      rw [← hm.out] at hml
      clear hcs c0 c1
      generalize (zs.getD j (0, 0)).1 = x at *
      generalize (zs.getD j (0, 0)).2 = y at *
      by_cases h24 : x = 24
      case neg =>
        have HE : Hid (loopsN zs p (j + 1) = loopsN zs p j) := Lib.hid (by rw [HSJ.out, if_neg h24, List.append_nil])
        rw [← HE.out] at hm ho
        go_wp2
        go_roundw
        case rel => exact ⟨j + 1, m, c', a', by omega, rfl, by go_num, hm, ho, hb⟩
        case measure => simp [intOf]; omega
      obtain ⟨o', e', hv, hmok⟩ := HMK.out (HOP.out h24)
      rw [hv] at HMJ
      have HEJ := Lib.hid (HEG.out j o' e' hv)
      subst h24
      clear hmok hv
      by_cases hpe : (p : Int) ≤ e'
      case neg =>
        have HE : Hid (loopsN zs p (j + 1) = loopsN zs p j) := Lib.hid (by rw [HSJ.out, if_pos rfl, HEJ.out, decide_eq_false hpe]; simp)
        rw [← HE.out] at hm ho
        go_wp2_with fail
        refine Calls.mono HMJ.out ?_
        rintro e w2 ⟨rfl, rfl⟩
        simp only [sRes]
        go_wp2
        go_roundw
        case rel => exact ⟨j + 1, m, c', a', by omega, rfl, by go_num, hm, ho, hb⟩
        case measure => simp [intOf]; omega
      have HE : Hid (loopsN zs p (j + 1) = loopsN zs p j ++ [y]) := Lib.hid (by rw [HSJ.out, if_pos rfl, HEJ.out, decide_eq_true hpe]; simp)
      have hbs := hb.out.size
      have hown := ho.out
      obtain ⟨H1, H2, H3, H4⟩ := HI.out
      go_wp2_with fail
      refine Calls.mono HMJ.out ?_
      rintro e w2 ⟨rfl, rfl⟩
      simp only [sRes]
      go_wp2_with (at_builtin; go_must (refine wpList_append_own _ rfl (.tmp 32) (.tmp 38) _ rfl w.heap.size 3 i0 _ 1 8 Tryd.underlying23 H1 H2 H3 H4 rfl (by decide) (.slice a' m c') m (kC (loopsN zs p j)) rfl (hown.alloc _) ⟨wr.heap.size, 0, none⟩ 1 1 [.int .i64 y] rfl rfl (one_at' _ rfl _ _) (by simp [Value.oneCell']) (by unfold maxLen; omega) (by omega) (by simp; omega) ?_); intro v3 w3 ho3 hg3 _; obtain ⟨x3, q3, rfl⟩ := wk_slice ho3; have Ho3 := Lib.hid ho3; have Hb3 := Lib.hid ((hb.out.alloc hbs _).grown hg3 (by simp; omega) (fun k hk => (ho.out.lt k hk).1)); clear ho3 hg3)
      have HO4 : Hid (w3.ownsRow w.heap.size 3 1 (.slice x3 (m + 1) q3) (m + 1) (kC (loopsN zs p (j + 1)))) := Lib.hid (by rw [HE.out, ← kC_snoc']; exact Ho3.out)
      have HM4 : Hid (m + 1 = (loopsN zs p (j + 1)).length) := Lib.hid (by rw [HE.out, List.length_append, ← hm.out]; rfl)
      go_roundw
      case rel => exact ⟨j + 1, m + 1, q3, x3, by omega, rfl, by go_num, HM4, HO4, Hb3⟩
      case measure => simp [intOf]; omega
    · obtain rfl : j = p := by omega
      go_wp2
      exact HP.out _ _ _ _ hm.out ho.out hb.out
end Go.Proofs.YtnehaidkhpjpbaaDoor
