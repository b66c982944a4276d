/- NewCore of spec: a core of one frame, left if its code is empty, copied. -/
import Derived.Test.YtnehaidkhpjpbaaDoorNewC
namespace Go.Proofs.YtnehaidkhpjpbaaDoor
open Go.ChangeShapes Go.WideShapes Go.ChangeAt Go.RowKit
set_option linter.unusedVariables false
/-- The length that the first cell of a box holds. -/
def lenAt (w : World) (p : Nat) : Nat := match w.cell? ⟨p, 0, none⟩ with | some (.slice _ n _) => n | _ => 0
theorem lenAt_of {w : World} {p n c : Nat} {a : Option Addr} (h : w.cell? ⟨p, 0, none⟩ = some (.slice a n c)) : lenAt w p = n := by unfold lenAt; rw [h]
/-- What the spec's new core is: its row's cells. -/
structure OneC (w : World) (r : Nat) (g l : Nat) : Prop where
  c0 : w.cell? ⟨g, 0, none⟩ = some (.int .i64 r)
  c1 : w.cell? ⟨g, 1, none⟩ = some (.int .i64 0)
  c2 : w.cell? ⟨g, 2, none⟩ = some (.slice (some ⟨l, 0, none⟩) 0 0)
theorem OneC.below {w w' : World} {r g l : Nat} (h : OneC w r g l) (hb : Below w.heap.size w w') : OneC w' r g l := by
  have hg : g < w.heap.size := cells_lt h.c0
  exact ⟨(hb.cell (p := ⟨g, 0, none⟩) hg).trans h.c0, (hb.cell (p := ⟨g, 1, none⟩) hg).trans h.c1, (hb.cell (p := ⟨g, 2, none⟩) hg).trans h.c2⟩
set_option maxRecDepth 100000 in
set_option maxHeartbeats 2000000 in
theorem l07Up1_any (ls : List (List Ins)) (r : Nat) (b : Option Addr) (bc g l h : Nat) (hm : ls.length ≤ maxLen) (hl : ∀ j, j < ls.length → (ls.getD j []).length ≤ maxLen) (hr : r < ls.length) (w : World) (hz : Routs w b ls) (hy : OneC w r g l) :
    Calls Tryd.prog 111 #[.slice b ls.length bc, .agg #[.slice (some ⟨g, 0, none⟩) 1 1, .slice (some ⟨h, 0, none⟩) 0 0]] w fun e w' => e = .returned (.agg #[.slice (some ⟨g, 0, none⟩) (newN ls r) 1, .slice (some ⟨h, 0, none⟩) 0 0]) ∧ Below w.heap.size w w' := by
  have HZ := Lib.hid hz
  have HY := Lib.hid hy
  have HA := Lib.hid (fun w (h : Routs w b ls) => h.at hr)
  have HU1 : Hid ((ls.getD r []).length = 0 → newN ls r = 0) := Lib.hid (fun h => if_pos h)
  have HU2 : Hid (¬ (ls.getD r []).length = 0 → newN ls r = 1) := Lib.hid (fun h => if_neg h)
  have hml := hl r hr
  have hri : (r : Int) < ls.length := by omega
  have HBX := Lib.hid (Bx2.start w (.cells #[.slice (some ⟨g, 0, none⟩) 1 1, .slice (some ⟨h, 0, none⟩) 0 0] 62) (.cells #[.slice none 0 0, .slice none 0 0] 62))
  unfold maxLen at hm hml
  clear hz hy hl hr
  generalize (ls.getD r []).length = m at *
  generalize newN ls r = N at *
  generalize hL : ls.length = n at *
  clear hL
  go_enter Tryd.func111, Tryd.ntmps111
  go_wp2
  go_loopw [5] (fun _ wr => ∃ k : Nat, k ≤ 1 ∧ Hid (k = 0 → N = 0) ∧ Hid (wr.heap[w.heap.size]? = some (.cells #[.slice (some ⟨g, 0, none⟩) k 1, .slice (some ⟨h, 0, none⟩) 0 0] 62)) ∧ Hid (wr.heap[w.heap.size + 1]? = some (.cells #[.slice none 0 0, .slice none 0 0] 62)) ∧ Hid (Below w.heap.size w wr)) (fun _ wr => lenAt wr w.heap.size)
  case atStart => exact ⟨1, Nat.le_refl _, Lib.hid (by omega), Lib.hid HBX.out.box, Lib.hid HBX.out.box2, Lib.hid HBX.out.bel⟩
  case round =>
    obtain ⟨k, hk, hkn, hx, hx2, hb⟩ := hrel
    have hlen := lenAt_of (cell_of_row wr w.heap.size 0 _ _ _ hx.out)
    have p0 := cell_of_row wr w.heap.size 0 _ _ _ hx.out
    have p1 := cell_of_row wr w.heap.size 1 _ _ _ hx.out
    have s0 := cell_of_row wr (w.heap.size + 1) 0 _ _ _ hx2.out
    have s1 := cell_of_row wr (w.heap.size + 1) 1 _ _ _ hx2.out
    have t0 := frozen_of_row wr (w.heap.size + 1) 0 _ _ hx2.out
    have t1 := frozen_of_row wr (w.heap.size + 1) 1 _ _ hx2.out
    by_cases hk0 : k = 0
    · subst hk0
      have HN := Lib.hid (hkn.out rfl)
      clear hlen
      go_wp2
      refine bodyPost_ret (v := .agg #[.slice (some ⟨g, 0, none⟩) 0 1, .slice (some ⟨h, 0, none⟩) 0 0]) (by simp [results, Tryd.results111, go_sem, s0, s1]) rfl ⟨by rw [HN.out], ?_⟩
      exact bel_set (bel_set hb.out (by omega) _) (by omega) _
    obtain rfl : k = 1 := by omega
    have hy2 := HY.out.below hb.out
    have d0 := hy2.c0
    have d1 := hy2.c1
    have d2 := hy2.c2
    have ha := dbox wr (.cells #[.int .i64 (r : Int), .int .i64 0, .slice (some ⟨l, 0, none⟩) 0 0] 149)
    have ka := heap_alloc_new wr (.cells #[.int .i64 (r : Int), .int .i64 0, .slice (some ⟨l, 0, none⟩) 0 0] 149)
    have HBA := Lib.hid (hb.out.trans (ha.mono hb.out.size))
    have u0 := cell_of_row _ wr.heap.size 0 _ _ _ ka
    have u1 := cell_of_row _ wr.heap.size 1 _ _ _ ka
    have kx := Lib.hid (blk_bel hx.out ha)
    have kx2 := Lib.hid (blk_bel hx2.out ha)
    obtain ⟨y2, o2, x2, z2, rfl, hb2, hc2, _⟩ := HA.out w HZ.out
    have e0 := (HBA.out.cell (p := ⟨y2, o2 + r, none⟩) hb2).trans hc2
    have HLN := Lib.hid hlen
    clear hy2 hc2 ha ka hlen hk0
    by_cases hm0 : m = 0
    · have HN := Lib.hid (HU1.out hm0)
      have g0 : ¬ (0 : Int) < (m : Int) := by omega
      clear hm0
      go_wp2
      go_quiet (fail)
      have v0 := cell_of_row _ w.heap.size 0 _ _ _ kx.out
      have v1 := cell_of_row _ w.heap.size 1 _ _ _ kx.out
      have v4 := frozen_of_row _ w.heap.size 0 _ _ kx.out
      go_wp2
      have kz := Lib.hid (wk_set kx.out 0 (.slice (some ⟨g, 0, none⟩) 0 1))
      have kz2 := Lib.hid (blk_far (p := w.heap.size) (i := 0) kx2.out (by omega) (.slice (some ⟨g, 0, none⟩) 0 1))
      go_roundw
      case rel => exact ⟨0, by omega, Lib.hid (fun _ => HN.out), kz, kz2, Lib.hid (bel_set (bel_dn HBA.out _) (Nat.le_refl _) _)⟩
      case measure =>
        rw [HLN.out]
        have := lenAt_of (cell_of_row _ w.heap.size 0 _ _ _ kz.out)
        exact Nat.lt_of_le_of_lt (Nat.le_of_eq this) (by omega)
    · have HN := Lib.hid (HU2.out hm0)
      have g0 : (0 : Int) < (m : Int) := by omega
      clear hm0
      go_wp2
      go_quiet (fail)
      have v0 := cell_of_row _ w.heap.size 0 _ _ _ kx.out
      have v1 := cell_of_row _ w.heap.size 1 _ _ _ kx.out
      have v2 := cell_of_row _ (w.heap.size + 1) 0 _ _ _ kx2.out
      have v3 := cell_of_row _ (w.heap.size + 1) 1 _ _ _ kx2.out
      have v4 := frozen_of_row _ (w.heap.size + 1) 0 _ _ kx2.out
      have v5 := frozen_of_row _ (w.heap.size + 1) 1 _ _ kx2.out
      go_wp2
      refine bodyPost_ret (v := .agg #[.slice (some ⟨g, 0, none⟩) 1 1, .slice (some ⟨h, 0, none⟩) 0 0]) (by simp [results, Tryd.results111, go_sem, v2, v3]) rfl ⟨by rw [HN.out], ?_⟩
      exact bel_set (bel_set (bel_dn HBA.out _) (by omega) _) (by omega) _
def NewSPost (ls : List (List Ins)) (r : Nat) (w : World) (e : Ending) (w' : World) : Prop := ∃ g l h, e = .returned (.agg #[.slice (some ⟨g, 0, none⟩) (newN ls r) 1, .slice (some ⟨h, 0, none⟩) 0 0]) ∧ OneC w' r g l ∧ Below w.heap.size w w'
set_option maxRecDepth 100000 in
set_option maxHeartbeats 1000000 in
theorem l07New_any (ls : List (List Ins)) (r : Nat) (b : Option Addr) (bc : Nat) (hm : ls.length ≤ maxLen) (hl : ∀ j, j < ls.length → (ls.getD j []).length ≤ maxLen) (hr : r < ls.length) (w : World) (hz : Routs w b ls) :
    Calls Tryd.prog 79 #[.slice b ls.length bc, .int .i64 r] w (NewSPost ls r w) := by
  have HZ := Lib.hid hz
  have HU := Lib.hid (fun g l h w hz hy => l07Up1_any ls r b bc g l h hm hl hr w hz hy)
  have HP : Hid (∀ g l h w', OneC w' r g l → Below w.heap.size w w' → NewSPost ls r w (.returned (.agg #[.slice (some ⟨g, 0, none⟩) (newN ls r) 1, .slice (some ⟨h, 0, none⟩) 0 0])) w') := Lib.hid (fun g l h w' h1 h2 => ⟨g, l, h, rfl, h1, h2⟩)
  have HB1 := Lib.hid (dbox w (.cells #[.slice none 0 0, .slice none 0 0] 62))
  have HB2 := Lib.hid (HB1.out.alloc HB1.out.size (.cells #[] 3))
  have HB3 := Lib.hid (HB2.out.alloc HB2.out.size (.cells #[.int .i64 (r : Int), .int .i64 0, .slice (some ⟨w.heap.size + 1, 0, none⟩) 0 0] 149))
  have HB4 := Lib.hid (HB3.out.alloc HB3.out.size (.cells #[] 3))
  have HK0 : Hid (((((w.alloc (.cells #[.slice none 0 0, .slice none 0 0] 62)).alloc (.cells #[] 3)).alloc (.cells #[.int .i64 (r : Int), .int .i64 0, .slice (some ⟨w.heap.size + 1, 0, none⟩) 0 0] 149)).alloc (.cells #[] 3)).heap[w.heap.size]? = some (.cells #[.slice none 0 0, .slice none 0 0] 62)) := Lib.hid (blk_bel (blk_bel (blk_bel (heap_alloc_new w _) (dbox _ _)) (dbox _ _)) (dbox _ _))
  have HK2 : Hid (((((w.alloc (.cells #[.slice none 0 0, .slice none 0 0] 62)).alloc (.cells #[] 3)).alloc (.cells #[.int .i64 (r : Int), .int .i64 0, .slice (some ⟨w.heap.size + 1, 0, none⟩) 0 0] 149)).alloc (.cells #[] 3)).heap[w.heap.size + 2]? = some (.cells #[.int .i64 (r : Int), .int .i64 0, .slice (some ⟨w.heap.size + 1, 0, none⟩) 0 0] 149)) := Lib.hid (blk_bel (by have := heap_alloc_new ((w.alloc (.cells #[.slice none 0 0, .slice none 0 0] 62)).alloc (.cells #[] 3)) (.cells #[.int .i64 (r : Int), .int .i64 0, .slice (some ⟨w.heap.size + 1, 0, none⟩) 0 0] 149); simpa using this) (dbox _ _))
  clear hz hl hr hm
  generalize NewSPost ls r w = POST at *
  generalize newN ls r = u at *
  generalize ls.length = n at *
  go_enter Tryd.func79, Tryd.ntmps79
  go_wp2_with fail
  refine Calls.mono (HU.out (w.heap.size + 2) (w.heap.size + 1) (w.heap.size + 3) _ (HZ.out.below HB4.out) ⟨cell_of_row _ _ 0 _ _ _ HK2.out, cell_of_row _ _ 1 _ _ _ HK2.out, cell_of_row _ _ 2 _ _ _ HK2.out⟩) ?_
  rintro e w3 ⟨rfl, hb3⟩
  have k0 := blk_bel HK0.out hb3
  have k2 := Lib.hid (blk_bel HK2.out hb3)
  have c0 := cell_of_row w3 w.heap.size 0 _ _ _ k0
  have c1 := cell_of_row w3 w.heap.size 1 _ _ _ k0
  have f0 := frozen_of_row w3 w.heap.size 0 _ _ k0
  have f1 := frozen_of_row w3 w.heap.size 1 _ _ k0
  have HB5 := Lib.hid (HB4.out.trans (hb3.mono HB4.out.size))
  clear hb3 k0
  go_wp2
  refine bodyPost_ret (v := .agg #[.slice (some ⟨w.heap.size + 2, 0, none⟩) u 1, .slice (some ⟨w.heap.size + 3, 0, none⟩) 0 0]) (by simp [results, Tryd.results79, go_sem, c0, c1]) rfl (HP.out _ (w.heap.size + 1) _ _ ?_ ?_)
  · have kk := blk_far (p := w.heap.size) (i := 1) (blk_far (p := w.heap.size) (i := 0) k2.out (by omega) (.slice (some ⟨w.heap.size + 2, 0, none⟩) u 1)) (by omega) (.slice (some ⟨w.heap.size + 3, 0, none⟩) 0 0)
    exact ⟨cell_of_row _ _ 0 _ _ _ kk, cell_of_row _ _ 1 _ _ _ kk, cell_of_row _ _ 2 _ _ _ kk⟩
  · exact bel_set (bel_set HB5.out (Nat.le_refl _) _) (Nat.le_refl _) _
end Go.Proofs.YtnehaidkhpjpbaaDoor
