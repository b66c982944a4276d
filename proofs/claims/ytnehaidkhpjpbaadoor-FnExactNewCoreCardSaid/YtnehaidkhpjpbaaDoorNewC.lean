/- NewCore of impl and of spec. -/
import Derived.Test.YtnehaidkhpjpbaaDoorUnf
namespace Go.Proofs.YtnehaidkhpjpbaaDoor
open Go.ChangeShapes Go.WideShapes Go.ChangeAt Go.RowKit
set_option linter.unusedVariables false
/-- The code of NewCore, the frames. -/
def newC (ls : List (List Ins)) (ks : List Int) (r : Int) : Int := if (allF ls ks).2.2 ≠ 0 then (allF ls ks).2.2 else if r < 0 ∨ (ls.length : Int) ≤ r then 4 else 0
def newRows (ls : List (List Ins)) (ks : List Int) (r : Int) : List FR := if newC ls ks r = 0 then newR ls r.toNat else []
def newFs (ls : List (List Ins)) (ks : List Int) (r : Int) : List FM := if newC ls ks r = 0 then newF ls r.toNat else []
theorem newC_ok {ls : List (List Ins)} {ks : List Int} {r : Int} (h : (allF ls ks).2.2 = 0) (h0 : 0 ≤ r) (h1 : r < ls.length) : newC ls ks r = 0 := by
  unfold newC; rw [if_neg (by rw [h]; decide), if_neg (by omega)]
theorem newC_bad {ls : List (List Ins)} {ks : List Int} {r : Int} (h : (allF ls ks).2.2 ≠ 0) : newC ls ks r = (allF ls ks).2.2 := if_pos h
theorem newC_rng {ls : List (List Ins)} {ks : List Int} {r : Int} (h : (allF ls ks).2.2 = 0) (h1 : r < 0 ∨ (ls.length : Int) ≤ r) : newC ls ks r = 4 := by
  unfold newC; rw [if_neg (by rw [h]; decide), if_pos h1]
def NCPost (ls : List (List Ins)) (ks : List Int) (r : Int) (w : World) (e : Ending) (w' : World) : Prop := ∃ a c, e = .returned (.tuple #[.agg #[.slice a (newRows ls ks r).length c, .slice none 0 0], .int .i64 (newC ls ks r)]) ∧ w'.ownsRow w.heap.size 149 3 (.slice a (newRows ls ks r).length c) (newRows ls ks r).length (flat frC (newRows ls ks r)) ∧ Below w.heap.size w w'
set_option maxRecDepth 100000 in
set_option maxHeartbeats 1000000 in
theorem newCore_any (a : Option Addr) (c : Nat) (ls : List (List Ins)) (ks : List Int) (k : Option Addr) (kc : Nat) (r : Int) (hm : ls.length ≤ maxLen) (hl : ∀ j, j < ls.length → (ls.getD j []).length ≤ maxLen) (hk : ks.length ≤ maxLen) (w : World) (ht : VTabs w) (hz : Routs w a ls) (hy : Lies w k (kC ks)) :
    Calls Tryd.prog 42 #[.slice a ls.length c, .slice k ks.length kc, .int .i64 r] w (NCPost ls ks r w) := by
  have HB := Lib.hid (dbox w (.cells #[.slice none 0 0, .slice none 0 0] 62))
  have HV := Lib.hid (verifyAll_any a c ls ks k kc hm hl hk _ (ht.below HB.out (Nat.le_refl _)) (hz.below HB.out) (hy.below HB.out (Nat.le_refl _)))
  have HK := Lib.hid (heap_alloc_new w (.cells #[.slice none 0 0, .slice none 0 0] 62))
  have HZ := Lib.hid hz
  have HNO : Hid (∀ w' z, newC ls ks r = z → z ≠ 0 → Below w.heap.size w w' → NCPost ls ks r w (.returned (.tuple #[.agg #[.slice none 0 0, .slice none 0 0], .int .i64 z])) w') := Lib.hid (fun w' z h1 h2 h3 => by
    subst h1
    have e : newRows ls ks r = [] := if_neg h2
    unfold NCPost
    rw [e]
    exact ⟨none, 0, rfl, World.ownsRow_nil _ _ _ _, h3⟩)
  by_cases hv : (allF ls ks).2.2 = 0
  case neg =>
    have HN := Lib.hid (fun w' hb => HNO.out w' (allF ls ks).2.2 (newC_bad hv) hv hb)
    have hb0 : ((allF ls ks).2.2 != 0) = true := by rw [bne_iff_ne]; exact hv
    clear hz hy ht hm hl hk hv HNO
    generalize NCPost ls ks r w = POST at *
    generalize (allF ls ks).1 = x at *
    generalize (allF ls ks).2.1 = y at *
    generalize (allF ls ks).2.2 = z at *
    generalize ls.length = n at *
    generalize ks.length = m at *
    go_enter Tryd.func42, Tryd.ntmps42
    go_wp2_with fail
    refine Calls.mono HV.out ?_
    rintro e w1 ⟨rfl, hb1⟩
    have k0 := blk_bel HK.out hb1
    have c0 := cell_of_row w1 w.heap.size 0 _ _ _ k0
    have c1 := cell_of_row w1 w.heap.size 1 _ _ _ k0
    have f0 := frozen_of_row w1 w.heap.size 0 _ _ k0
    have f1 := frozen_of_row w1 w.heap.size 1 _ _ k0
    have HB1 := Lib.hid (HB.out.trans (hb1.mono HB.out.size))
    clear hb1 k0
    go_wp2
    refine bodyPost_ret (v := .tuple #[.agg #[.slice none 0 0, .slice none 0 0], .int .i64 z]) (by simp [results, Tryd.results42, go_sem, c0, c1]) rfl (HN.out _ ?_)
    exact bel_set (bel_set HB1.out (Nat.le_refl _) _) (Nat.le_refl _) _
  rw [hv] at HV
  by_cases hr : r < 0 ∨ (ls.length : Int) ≤ r
  · have HN := Lib.hid (fun w' hb => HNO.out w' 4 (newC_rng hv hr) (by decide) hb)
    clear hz hy ht hm hl hk hv HNO
    generalize NCPost ls ks r w = POST at *
    generalize (allF ls ks).1 = x at *
    generalize (allF ls ks).2.1 = y at *
    generalize ls.length = n at *
    generalize ks.length = m at *
    by_cases hr0 : r < 0
    · clear hr
      go_enter Tryd.func42, Tryd.ntmps42
      go_wp2_with fail
      refine Calls.mono HV.out ?_
      rintro e w1 ⟨rfl, hb1⟩
      have k0 := blk_bel HK.out hb1
      have c0 := cell_of_row w1 w.heap.size 0 _ _ _ k0
      have c1 := cell_of_row w1 w.heap.size 1 _ _ _ k0
      have f0 := frozen_of_row w1 w.heap.size 0 _ _ k0
      have f1 := frozen_of_row w1 w.heap.size 1 _ _ k0
      have HB1 := Lib.hid (HB.out.trans (hb1.mono HB.out.size))
      clear hb1 k0
      go_wp2
      refine bodyPost_ret (v := .tuple #[.agg #[.slice none 0 0, .slice none 0 0], .int .i64 4]) (by simp [results, Tryd.results42, go_sem, c0, c1]) rfl (HN.out _ ?_)
      exact bel_set (bel_set HB1.out (Nat.le_refl _) _) (Nat.le_refl _) _
    · have hr1 : (n : Int) ≤ r := by omega
      clear hr
      go_enter Tryd.func42, Tryd.ntmps42
      go_wp2_with fail
      refine Calls.mono HV.out ?_
      rintro e w1 ⟨rfl, hb1⟩
      have k0 := blk_bel HK.out hb1
      have c0 := cell_of_row w1 w.heap.size 0 _ _ _ k0
      have c1 := cell_of_row w1 w.heap.size 1 _ _ _ k0
      have f0 := frozen_of_row w1 w.heap.size 0 _ _ k0
      have f1 := frozen_of_row w1 w.heap.size 1 _ _ k0
      have HB1 := Lib.hid (HB.out.trans (hb1.mono HB.out.size))
      clear hb1 k0
      go_wp2
      refine bodyPost_ret (v := .tuple #[.agg #[.slice none 0 0, .slice none 0 0], .int .i64 4]) (by simp [results, Tryd.results42, go_sem, c0, c1]) rfl (HN.out _ ?_)
      exact bel_set (bel_set HB1.out (Nat.le_refl _) _) (Nat.le_refl _) _
  obtain ⟨q, rfl⟩ : ∃ q : Nat, r = q := ⟨r.toNat, by omega⟩
  have hq : q < ls.length := by omega
  have HF := Lib.hid (fun w hz => newCore0_any ls q a c hm hl hq w hz)
  have hC : newC ls ks q = 0 := newC_ok hv (by omega) (by omega)
  have HP : Hid (∀ w1 g w', Below w.heap.size w w1 → w'.ownsRow w1.heap.size 149 3 (.slice (some ⟨g, 0, none⟩) (newN ls q) 1) (newN ls q) (flat frC (newR ls q)) → Below w.heap.size w w' → NCPost ls ks q w (.returned (.tuple #[.agg #[.slice (some ⟨g, 0, none⟩) (newN ls q) 1, .slice none 0 0], .int .i64 0])) w') := Lib.hid (fun w1 g w' h1 h2 h3 => by
    have e : newRows ls ks q = newR ls q := by unfold newRows; rw [if_pos hC, Int.toNat_natCast]
    unfold NCPost
    rw [e, newR_len, hC]
    exact ⟨some ⟨g, 0, none⟩, 1, rfl, own_base h2 h1.size, h3⟩)
  have HFX : Hid (∀ w2, Below w.heap.size w w2 → Calls Tryd.prog 80 #[.slice a ls.length c, .int .i64 q] w2 fun e w' => ∃ g, e = .returned (.agg #[.slice (some ⟨g, 0, none⟩) (newN ls q) 1, .slice none 0 0]) ∧ w'.ownsRow w2.heap.size 149 3 (.slice (some ⟨g, 0, none⟩) (newN ls q) 1) (newN ls q) (flat frC (newR ls q)) ∧ Below w2.heap.size w2 w') := Lib.hid (fun w2 hb => (HF.out w2 (HZ.out.below hb)).mono fun e w' h => h)
  have hr0 : ¬ (q : Int) < 0 := by omega
  have hr1 : ¬ (ls.length : Int) ≤ (q : Int) := by omega
  have HSZ : Hid ((w.alloc (.cells #[.slice none 0 0, .slice none 0 0] 62)).heap.size = w.heap.size + 1) := Lib.hid (by simp)
  clear hz hy ht hm hl hk hv HNO hr hC HF hq
  generalize NCPost ls ks q w = POST at *
  generalize (allF ls ks).1 = x at *
  generalize (allF ls ks).2.1 = y at *
  generalize ls.length = n at *
  generalize ks.length = m at *
  generalize newN ls q = u at *
  generalize flat frC (newR ls q) = xs at *
  go_enter Tryd.func42, Tryd.ntmps42
  go_wp2_with fail
  refine Calls.mono HV.out ?_
  rintro e w1 ⟨rfl, hb1⟩
  have K1 := Lib.hid (blk_bel HK.out hb1)
  have HB1 := Lib.hid (HB.out.trans (hb1.mono HB.out.size))
  have HS1 := Lib.hid (show w.heap.size + 1 ≤ w1.heap.size by have := hb1.size; rw [HSZ.out] at this; exact this)
  clear hb1
  go_wp2_with fail
  refine Calls.mono (HFX.out _ HB1.out) ?_
  rintro e w2 ⟨g, rfl, ho, hb2⟩
  have k0 := blk_bel K1.out hb2
  have c0 := cell_of_row w2 w.heap.size 0 _ _ _ k0
  have c1 := cell_of_row w2 w.heap.size 1 _ _ _ k0
  have f0 := frozen_of_row w2 w.heap.size 0 _ _ k0
  have f1 := frozen_of_row w2 w.heap.size 1 _ _ k0
  have HB2 := Lib.hid (HB1.out.trans (hb2.mono HB1.out.size))
  have HO := Lib.hid ho
  clear hb2 k0 ho
  go_wp2
  refine bodyPost_ret (v := .tuple #[.agg #[.slice (some ⟨g, 0, none⟩) u 1, .slice none 0 0], .int .i64 0]) (by simp [results, Tryd.results42, go_sem, c0, c1]) rfl (HP.out w1 g _ HB1.out ?_ ?_)
  · exact own_far (own_far HO.out (by have := HS1.out; omega) _) (by have := HS1.out; omega) _
  · exact bel_set (bel_set HB2.out (Nat.le_refl _) _) (Nat.le_refl _) _
end Go.Proofs.YtnehaidkhpjpbaaDoor
