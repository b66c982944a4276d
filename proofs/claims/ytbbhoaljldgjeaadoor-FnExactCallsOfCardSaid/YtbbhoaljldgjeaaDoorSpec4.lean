/- The verifier of spec: a structure opened; a step. -/
import Derived.Test.YtbbhoaljldgjeaaDoorSpec3
namespace Go.Proofs.YtbbhoaljldgjeaaDoor
open Go.ChangeShapes Go.WideShapes Go.ChangeAt Go.RowKit
set_option linter.unusedVariables false
theorem heap_alloc_size (w : World) (O : Obj) : (w.alloc O).heap.size = w.heap.size + 1 := by simp
theorem three_at (w : World) {b : Nat} (hb : b = w.heap.size) (a d e : Value) (t : TypeId) : ∀ j u, [a, d, e][j]? = some u → (w.alloc (.cells #[a, d, e] t)).cell? ((⟨b, 0, none⟩ : Addr).add j) = some u := by
  subst hb
  exact three_cells w a d e t
set_option maxHeartbeats 4000000 in
theorem snest_open (B p n c : Nat) (a : Option Addr) (xs : List Value) (x y i : Int) (S : ByteArray) (ho : x = 21 ∨ x = 24) (hn' : n + 1 ≤ 4) (w : World) (hB : B ≤ w.heap.size) (hp : p < w.heap.size)
    (h0 : w.cell? ⟨p, 0, none⟩ = some (.string S)) (h1 : w.cell? ⟨p, 1, none⟩ = some (.slice a n c)) (f1 : w.frozen? ⟨p, 1, none⟩ = false)
    (hown : w.ownsRow B 102 3 (.slice a n c) n xs) (hne : some p ≠ Value.ownBlock (.slice a n c)) :
    SNest x y p i w fun e w' => e = .returned (.int .i64 0) ∧ SOpened B p n c a xs [.int .i64 i, .int .i64 x, .string S] w w' := by
  unfold SNest
  obtain ⟨i0, hi, hz0, hz1, hz2⟩ := info_parts (show (Tryd.prog.info? 102).map (fun i => (i.zero, i.size, i.bytes)) = some (some (.agg #[.int .i64 0, .int .i64 0, .string ⟨#[]⟩]), 3, 32) by kernel_rfl)
  have HI := Lib.hid (And.intro hi (And.intro hz0 (And.intro hz1 hz2)))
  have Ho := Lib.hid hown
  have HN := Lib.hid hne
  have HF := Lib.hid f1
  have HC1 := Lib.hid h1
  have hk : ∀ O O' w1, ((w.alloc O).alloc O').grownBy w1 (Value.ownBlock (.slice a n c)) → w1.heap[p]? = w.heap[p]? := fun O O' w1 g =>
    (g.block p (by simp; omega) HN.out).trans ((Below.heap_alloc (w.alloc O) O' p (by simp; omega)).trans (Below.heap_alloc w O p hp))
  have HK := Lib.hid hk
  have e0 := oc h0
  have e1 := oc h1
  have HBB : Hid (∀ O O', B ≤ ((w.alloc O).alloc O').heap.size) := Lib.hid (fun O O' => by simp; omega)
  have H1c : Hid (∀ u ∈ [Value.int .i64 i, .int .i64 x, .string S], u.oneCell' = true) := Lib.hid (by simp [Value.oneCell'])
  have HM1 : Hid (n + 1 ≤ maxLen) := Lib.hid (by unfold maxLen; omega)
  have HM2 : Hid ((n + 1) * 32 ≤ 140737488355328) := Lib.hid (by omega)
  have H03 : Hid (0 < 3) := Lib.hid (by decide)
  have hn4 : ((n : Int) == 4) = false := by rw [beq_eq_false_iff_ne]; omega
  clear hi hz0 hz1 hz2 hown hne hk f1 hB h0 h1
  obtain ⟨H1, H2, H3, H4⟩ := HI.out
  rcases ho with rfl | rfl
  · go_enter Tryd.func74, Tryd.ntmps74
    go_wp2
    go_region_law (refine step_append_own rfl (.tmp 27) (.tmp 36) _ rfl B 102 i0 _ 3 32 Tryd.underlying71 H1 H2 H3 H4 rfl H03.out (.slice a n c) n xs rfl ((Ho.out.alloc _).alloc _) ⟨w.heap.size + 1, 0, none⟩ 1 1 [.int .i64 i, .int .i64 21, .string S] rfl rfl (three_at _ (heap_alloc_size w _).symm (.int .i64 i) (.int .i64 21) (.string S) _) H1c.out HM1.out HM2.out (HBB.out (.cells #[.int .i64 21, .int .i64 y] 38) (.cells #[.int .i64 i, .int .i64 21, .string S] 102)) (fun v' w' g1 g2 _ => ?_); obtain ⟨a2, c2, rfl⟩ := wk_slice g1; have G1 := Lib.hid g1; have g2 : ((w.alloc (.cells #[.int .i64 21, .int .i64 y] 38)).alloc (.cells #[.int .i64 i, .int .i64 21, .string S] 102)).grownBy w' (Value.ownBlock (.slice a n c)) := ⟨g2.os, g2.tape, g2.output, g2.size, g2.block⟩; have G2 := Lib.hid g2; have k4 := (World.frozen?_of_block (a := ⟨p, 1, none⟩) (HK.out _ _ _ g2)).trans HF.out; have k3 := (World.cell?_of_block (a := ⟨p, 1, none⟩) (HK.out _ _ _ g2)).trans HC1.out; clear g1 g2)
    all_goals go_wp2
    all_goals go_ret
    all_goals exact ⟨rfl, a2, c2, _, _, _, G1.out, G2.out, rfl⟩
  · go_enter Tryd.func74, Tryd.ntmps74
    go_wp2
    go_region_law (refine step_append_own rfl (.tmp 27) (.tmp 36) _ rfl B 102 i0 _ 3 32 Tryd.underlying71 H1 H2 H3 H4 rfl H03.out (.slice a n c) n xs rfl ((Ho.out.alloc _).alloc _) ⟨w.heap.size + 1, 0, none⟩ 1 1 [.int .i64 i, .int .i64 24, .string S] rfl rfl (three_at _ (heap_alloc_size w _).symm (.int .i64 i) (.int .i64 24) (.string S) _) H1c.out HM1.out HM2.out (HBB.out (.cells #[.int .i64 24, .int .i64 y] 38) (.cells #[.int .i64 i, .int .i64 24, .string S] 102)) (fun v' w' g1 g2 _ => ?_); obtain ⟨a2, c2, rfl⟩ := wk_slice g1; have G1 := Lib.hid g1; have g2 : ((w.alloc (.cells #[.int .i64 24, .int .i64 y] 38)).alloc (.cells #[.int .i64 i, .int .i64 24, .string S] 102)).grownBy w' (Value.ownBlock (.slice a n c)) := ⟨g2.os, g2.tape, g2.output, g2.size, g2.block⟩; have G2 := Lib.hid g2; have k4 := (World.frozen?_of_block (a := ⟨p, 1, none⟩) (HK.out _ _ _ g2)).trans HF.out; have k3 := (World.cell?_of_block (a := ⟨p, 1, none⟩) (HK.out _ _ _ g2)).trans HC1.out; clear g1 g2)
    all_goals go_wp2
    all_goals go_ret
    all_goals exact ⟨rfl, a2, c2, _, _, _, G1.out, G2.out, rfl⟩
end Go.Proofs.YtbbhoaljldgjeaaDoor
