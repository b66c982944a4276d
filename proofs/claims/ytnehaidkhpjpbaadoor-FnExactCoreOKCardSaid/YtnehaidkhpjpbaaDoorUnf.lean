/- Frames that have come to their ends are left, in impl and in spec. -/
import Derived.Test.YtnehaidkhpjpbaaDoorCor3
import Derived.Test.YtnehaidkhpjpbaaDoorRtM
namespace Go.Proofs.YtnehaidkhpjpbaaDoor
open Go.ChangeShapes Go.WideShapes Go.ChangeAt Go.RowKit
set_option linter.unusedVariables false
def codeLen (ls : List (List Ins)) (r : Int) : Nat := (ls.getD r.toNat []).length
/-- How many of the first n frames are left. -/
def upN (ls : List (List Ins)) (fs : List FM) : Nat → Nat
  | 0 => 0
  | n + 1 => if (fs.getD n fm0).2.1 = codeLen ls (fs.getD n fm0).1 then upN ls fs n else n + 1
theorem upN_le (ls : List (List Ins)) (fs : List FM) : ∀ n, upN ls fs n ≤ n
  | 0 => Nat.le_refl _
  | n + 1 => by
    rw [upN]
    split
    · have := upN_le ls fs n; omega
    · exact Nat.le_refl _
set_option maxRecDepth 100000 in
set_option maxHeartbeats 2000000 in
theorem unfinished_any (ls : List (List Ins)) (fs : List FM) (b a : Option Addr) (bc c : Nat) (hm : ls.length ≤ maxLen) (hl : ∀ j, j < ls.length → (ls.getD j []).length ≤ maxLen) (hf : fs.length ≤ maxLen) (hc : fs.length ≤ c) (hcm : c ≤ maxLen) (hr : ∀ j, j < fs.length → 0 ≤ (fs.getD j fm0).1 ∧ (fs.getD j fm0).1 < ls.length) (w : World) (hz : Routs w b ls) (hy : Frs w a fs) :
    Calls Tryd.prog 112 #[.slice b ls.length bc, .slice a fs.length c] w fun e w' => e = .returned (.slice a (upN ls fs fs.length) c) ∧ Below w.heap.size w w' := by
  have HZ := Lib.hid hz
  have HY := Lib.hid hy
  have HA := Lib.hid (fun w (h : Frs w a fs) j (hj : j < fs.length) => h.at hj)
  have HB := Lib.hid (fun w (h : Routs w b ls) j (hj : j < ls.length) => h.at hj)
  have HR := Lib.hid hr
  have HU : Hid (∀ n, upN ls fs (n + 1) = if (fs.getD n fm0).2.1 = codeLen ls (fs.getD n fm0).1 then upN ls fs n else n + 1) := Lib.hid (fun n => rfl)
  have HLE := Lib.hid (upN_le ls fs)
  have HCL : Hid (∀ r : Int, codeLen ls r = (ls.getD r.toNat []).length) := Lib.hid (fun r => rfl)
  have HLM := Lib.hid hl
  unfold maxLen at hm hf hcm
  clear hz hy hr hl
  have HU0 : Hid (upN ls fs 0 = 0) := Lib.hid rfl
  generalize upN ls fs = U at *
  generalize hL : fs.length = n at *
  have HL := Lib.hid hL
  clear hL
  go_enter Tryd.func112, Tryd.ntmps112
  go_wp2
  go_loopw [5] (fun i wr => ∃ k : Nat, k ≤ n ∧ i = .int .i64 k ∧ Hid (U n = U k) ∧ Hid (Below w.heap.size w wr)) (fun i _ => (intOf i).toNat)
  case atStart => exact ⟨n, Nat.le_refl _, rfl, Lib.hid rfl, Lib.hid (Below.refl _ _)⟩
  case round =>
    obtain ⟨k, hk, rfl, hu, hb⟩ := hrel
    cases k with
    | zero =>
      go_wp2
      go_quiet (fail)
      go_wp2
      go_ret
      exact ⟨by rw [hu.out, HU0.out]; rfl, bel_dn hb.out _⟩
    | succ k =>
      obtain ⟨y1, o1, x1, z1, rfl, hb1, hp1, hq1, hc1, hz1⟩ := HA.out w HY.out k (by omega)
      obtain ⟨hr0, hr1⟩ := HR.out k (by omega)
      have hUk := HU.out k
      rw [HCL.out] at hUk
      obtain ⟨q, hq⟩ : ∃ q : Nat, (fs.getD k fm0).1 = q := ⟨(fs.getD k fm0).1.toNat, by omega⟩
      rw [hq] at hp1 hUk hr0 hr1
      simp only [Int.toNat_natCast] at hUk
      have hql : q < ls.length := by omega
      have hqi : (q : Int) < ls.length := by omega
      obtain ⟨y2, o2, x2, z2, rfl, hb2, hc2, _⟩ := HB.out w HZ.out q hql
      have d0 := (hb.out.cell (p := ⟨y1, o1 + k * 3, none⟩) hb1).trans hp1
      have d1 := (hb.out.cell (p := ⟨y1, o1 + k * 3 + 1, none⟩) hb1).trans hq1
      have d2 := (hb.out.cell (p := ⟨y2, o2 + q, none⟩) hb2).trans hc2
      have hkn : (k : Int) < n := by omega
      have hk1 : ((k + 1 : Nat) : Int) - 1 = (k : Int) := by omega
      have hk0 : (0 : Int) < ((k + 1 : Nat) : Int) := by omega
      have HU1 : Hid ((fs.getD k fm0).2.1 = ((ls.getD q []).length : Int) → U (k + 1) = U k) := Lib.hid (fun h => by rw [hUk, if_pos h])
      have HU3 : Hid (¬ (fs.getD k fm0).2.1 = ((ls.getD q []).length : Int) → U (k + 1) = k + 1) := Lib.hid (fun h => by rw [hUk, if_neg h])
      clear hp1 hq1 hc1 hz1 hc2 hr0 hr1 hUk hq
      generalize (fs.getD k fm0).2.1 = p at *
      generalize (ls.getD q []).length = m at *
      by_cases hpm : p = m
      · have hb0 : (p == (m : Int)) = true := by rw [beq_iff_eq]; exact hpm
        have HU2 : Hid (U n = U k) := Lib.hid (by rw [hu.out, HU1.out hpm])
        clear hpm
        go_wp2
        go_quiet (fail)
        go_wp2
        go_roundw
        case rel => exact ⟨k, by omega, by go_num, HU2, Lib.hid (bel_dn hb.out _)⟩
        case measure => simp [intOf]
      · have hb0 : (p == (m : Int)) = false := by rw [beq_eq_false_iff_ne]; exact hpm
        have HU2 : Hid (U n = k + 1) := Lib.hid (by rw [hu.out, HU3.out hpm])
        have hkc : ((k + 1 : Nat) : Int) ≤ c := by omega
        clear hpm
        go_wp2
        go_quiet (fail)
        go_wp2
        go_ret
        exact ⟨by rw [HU2.out]; rfl, bel_dn hb.out _⟩
/-- A row of the call's own, its first m elements. -/
theorem own_cut {w : World} {B size n c g m : Nat} {e : TypeId} {xs : List Value} (h : w.ownsRow B e size (.slice (some ⟨g, 0, none⟩) n c) n xs) (hm : m ≤ n) : w.ownsRow B e size (.slice (some ⟨g, 0, none⟩) m c) m (xs.take (m * size)) := by
  obtain ⟨h1, h2⟩ := h
  have hms : m * size ≤ n * size := Nat.mul_le_mul_right size hm
  refine ⟨by rw [List.length_take, h1, Nat.min_eq_left hms], ?_⟩
  rcases h2 with ⟨h0, _⟩ | ⟨g', cap, cur, e1, h3, h4, h5, h6, h7, h8⟩
  · cases h0
  · simp only [Value.slice.injEq, Option.some.injEq, Addr.mk.injEq, and_true, true_and] at e1
    obtain ⟨rfl, rfl⟩ := e1
    exact .inr ⟨g, c, cur, rfl, h3, h4, by omega, h6, h7, by rw [← h8, List.take_take, Nat.min_eq_left hms]⟩
/-- The frames of a new core. -/
def newN (ls : List (List Ins)) (r : Nat) : Nat := if (ls.getD r []).length = 0 then 0 else 1
def newR (ls : List (List Ins)) (r : Nat) : List FR := if (ls.getD r []).length = 0 then [] else [((r : Int), 0, none, 0, 0)]
def newF (ls : List (List Ins)) (r : Nat) : List FM := if (ls.getD r []).length = 0 then [] else [((r : Int), 0, [])]
theorem newR_len (ls : List (List Ins)) (r : Nat) : (newR ls r).length = newN ls r := by unfold newR newN; split <;> rfl
theorem newF_len (ls : List (List Ins)) (r : Nat) : (newF ls r).length = newN ls r := by unfold newF newN; split <;> rfl
theorem newN_le (ls : List (List Ins)) (r : Nat) : newN ls r ≤ 1 := by unfold newN; split <;> omega
theorem newN_up (ls : List (List Ins)) (r : Nat) : upN ls [((r : Int), 0, [])] 1 = newN ls r := by
  unfold newN
  rw [upN, upN]
  have e : codeLen ls (([((r : Int), 0, [])] : List FM).getD 0 fm0).1 = (ls.getD r []).length := by
    show (ls.getD (r : Int).toNat []).length = _
    rw [Int.toNat_natCast]
  rw [e]
  by_cases h : (ls.getD r []).length = 0
  · rw [if_pos h, if_pos (by rw [h]; rfl)]
  · rw [if_neg h, if_neg (by show ¬ (0 : Int) = _; omega)]
theorem newR_take (ls : List (List Ins)) (r : Nat) : ([.int .i64 (r : Int), .int .i64 0, .slice none 0 0] : List Value).take (newN ls r * 3) = flat frC (newR ls r) := by
  unfold newN newR
  split <;> rfl
/-- A row of frames without counters. -/
theorem frs_new {w : World} {B c g : Nat} {ls : List (List Ins)} {r : Nat} (h : w.ownsRow B 149 3 (.slice (some ⟨g, 0, none⟩) (newN ls r) c) (newN ls r) (flat frC (newR ls r))) : Frs w (some ⟨g, 0, none⟩) (newF ls r) := by
  refine ⟨newR ls r, by rw [newR_len, newF_len], lies_own h, fun j hj => ?_⟩
  rw [newF_len] at hj
  have := newN_le ls r
  obtain rfl : j = 0 := by omega
  unfold newN newR newF at *
  split at hj
  · omega
  · rename_i h0
    rw [if_neg h0, if_neg h0]
    exact ⟨rfl, rfl, rfl, .inl rfl⟩
def NewPost (ls : List (List Ins)) (r : Nat) (w : World) (e : Ending) (w' : World) : Prop := ∃ g, e = .returned (.agg #[.slice (some ⟨g, 0, none⟩) (newN ls r) 1, .slice none 0 0]) ∧ w'.ownsRow w.heap.size 149 3 (.slice (some ⟨g, 0, none⟩) (newN ls r) 1) (newN ls r) (flat frC (newR ls r)) ∧ Below w.heap.size w w'
set_option maxRecDepth 100000 in
set_option maxHeartbeats 1000000 in
theorem newCore0_any (ls : List (List Ins)) (r : Nat) (b : Option Addr) (bc : Nat) (hm : ls.length ≤ maxLen) (hl : ∀ j, j < ls.length → (ls.getD j []).length ≤ maxLen) (hr : r < ls.length) (w : World) (hz : Routs w b ls) :
    Calls Tryd.prog 80 #[.slice b ls.length bc, .int .i64 r] w (NewPost ls r w) := by
  have HZ := Lib.hid hz
  have HX : Hid (∀ (w1 : World), (w1.alloc (.cells #[.int .i64 (r : Int), .int .i64 0, .slice none 0 0] 149)).ownsRow w1.heap.size 149 3 (.slice (some ⟨w1.heap.size, 0, none⟩) 1 1) 1 [.int .i64 (r : Int), .int .i64 0, .slice none 0 0]) := Lib.hid (fun w1 => World.ownsRow_lit (base := w1.heap.size) (e := 149) (size := 3) w1 #[.int .i64 (r : Int), .int .i64 0, .slice none 0 0] 1 (Nat.le_refl _) (by unfold maxLen; omega) rfl)
  have HF : Hid (∀ (w1 : World) g, w1.ownsRow w.heap.size 149 3 (.slice (some ⟨g, 0, none⟩) 1 1) 1 [.int .i64 (r : Int), .int .i64 0, .slice none 0 0] → Frs w1 (some ⟨g, 0, none⟩) [((r : Int), 0, [])]) := Lib.hid (fun w1 g h => ⟨[((r : Int), 0, none, 0, 0)], rfl, lies_own h, fun j hj => by
    obtain rfl : j = 0 := by simp at hj; omega
    exact ⟨rfl, rfl, rfl, .inl rfl⟩⟩)
  have HU := Lib.hid (fun a w hz hy => unfinished_any ls [((r : Int), 0, [])] b a bc 1 hm hl (by unfold maxLen; simp) (Nat.le_refl _) (by unfold maxLen; omega) (fun j hj => by
    obtain rfl : j = 0 := by simp at hj; omega
    exact ⟨by show (0 : Int) ≤ r; omega, by show (r : Int) < _; omega⟩) w hz hy)
  have HP : Hid (∀ g w', w'.ownsRow w.heap.size 149 3 (.slice (some ⟨g, 0, none⟩) 1 1) 1 [.int .i64 (r : Int), .int .i64 0, .slice none 0 0] → Below w.heap.size w w' → NewPost ls r w (.returned (.agg #[.slice (some ⟨g, 0, none⟩) (upN ls [((r : Int), 0, [])] 1) 1, .slice none 0 0])) w') := Lib.hid (fun g w' h1 h2 => by
    rw [newN_up]
    exact ⟨g, rfl, by rw [← newR_take]; exact own_cut h1 (newN_le ls r), h2⟩)
  clear hz hl hr hm
  generalize NewPost ls r w = POST at *
  have HB : Hid (∀ O O' : Obj, Below w.heap.size w ((w.alloc O).alloc O')) := Lib.hid (fun O O' => ((Below.refl w.heap.size w).alloc (Nat.le_refl _) O).alloc (by simp) O')
  have HOW := Lib.hid (HX.out (w.alloc (.cells #[.slice none 0 0, .slice none 0 0] 62)))
  have HK := Lib.hid (heap_alloc2_old w (.cells #[.slice none 0 0, .slice none 0 0] 62) (.cells #[.int .i64 (r : Int), .int .i64 0, .slice none 0 0] 149))
  have HSZ : Hid ((w.alloc (.cells #[.slice none 0 0, .slice none 0 0] 62)).heap.size = w.heap.size + 1) := Lib.hid (by simp)
  rw [HSZ.out] at HOW
  generalize upN ls [((r : Int), 0, [])] 1 = u at *
  have HU' : Hid (∀ a w, Routs w b ls → Frs w a [((r : Int), 0, [])] → Calls Tryd.prog 112 #[.slice b ls.length bc, .slice a 1 1] w fun e w' => e = .returned (.slice a u 1) ∧ Below w.heap.size w w') := HU
  clear HU
  generalize ls.length = n at *
  go_enter Tryd.func80, Tryd.ntmps80
  go_wp2_with fail
  refine Calls.mono (HU'.out _ _ (HZ.out.below (HB.out _ _)) (HF.out _ _ (own_base HOW.out (by omega)))) ?_
  rintro e w3 ⟨rfl, hb3⟩
  have k0 := blk_bel HK.out hb3
  have c0 := cell_of_row w3 w.heap.size 0 _ _ _ k0
  have c1 := cell_of_row w3 w.heap.size 1 _ _ _ k0
  have f0 := frozen_of_row w3 w.heap.size 0 _ _ k0
  have f1 := frozen_of_row w3 w.heap.size 1 _ _ k0
  have HB3 := Lib.hid ((HB.out _ _).trans (hb3.mono (HB.out _ _).size))
  have HO3 := Lib.hid (own_bl HOW.out hb3)
  clear hb3 k0
  go_wp2
  refine bodyPost_ret (v := .agg #[.slice (some ⟨w.heap.size + 1, 0, none⟩) u 1, .slice none 0 0]) (by simp [results, Tryd.results80, go_sem, c0, c1]) rfl (HP.out _ _ ?_ ?_)
  · exact own_base (own_far (own_far HO3.out (by omega) _) (by omega) _) (by omega)
  · exact bel_set (bel_set HB3.out (Nat.le_refl _) _) (Nat.le_refl _) _
end Go.Proofs.YtnehaidkhpjpbaaDoor
