/- verify of impl: a walk from the start, and its end recovered. -/
import Derived.Test.YtbbhoaljldgjeaaDoorWalk15
namespace Go.Proofs.YtbbhoaljldgjeaaDoor
open Go.ChangeShapes Go.WideShapes Go.ChangeAt Go.RowKit
set_option linter.unusedVariables false
theorem vRun_end {ks : List Int} {r : Int} : ∀ (zs : List Ins) (i : Nat) (v : VW), (vRun ks r zs i v).2.1 = 0 → (vRun ks r zs i v).2.2 = i + zs.length
  | [], i, v, _ => rfl
  | x :: t, i, v, h => by
    rw [vRun] at h ⊢
    by_cases g : (vStep ks r x i v).2 = 0
    · rw [if_pos g] at h ⊢
      rw [vRun_end t (i + 1) _ h, List.length_cons]
      omega
    · rw [if_neg g] at h
      exact absurd h g
theorem vVer_pass {ks : List Int} {r : Int} {zs : List Ins} (h : (vRun ks r zs 0 ⟨[], []⟩).2.1 ≠ 0) : vVer zs ks r = ((((vRun ks r zs 0 ⟨[], []⟩).2.2 : Nat) : Int), (vRun ks r zs 0 ⟨[], []⟩).2.1) := by
  unfold vVer
  exact if_pos h
theorem vVer_fin {ks : List Int} {r : Int} {zs : List Ins} (h : (vRun ks r zs 0 ⟨[], []⟩).2.1 = 0) : vVer zs ks r = finC (vRun ks r zs 0 ⟨[], []⟩).1 zs.length := by
  unfold vVer finC
  dsimp only
  rw [if_neg (fun q => q h)]
  cases (vRun ks r zs 0 ⟨[], []⟩).1.opn.getLast? <;> rfl
theorem finC_zero {v : VW} {i : Int} (h : (finC v i).2 = 0) : finC v i = (0, 0) := by
  unfold finC at *
  cases hg : v.opn.getLast? with
  | some o => rw [hg] at h; exact absurd h (by simp)
  | none =>
    rw [hg] at h
    simp only at h ⊢
    split
    · rfl
    · rename_i hs
      rw [if_neg hs] at h
      exact absurd h (by simp)
theorem off_set {w : World} {p : Nat} {x y : Int} (h : w.heap[p]? = some (offO x y)) (i c : Int) : ((w.setCell ⟨p, 0, none⟩ (.int .i64 i)).setCell ⟨p, 1, none⟩ (.int .i64 c)).heap[p]? = some (offO i c) := by
  simpa using wk_set (wk_set h 0 (.int .i64 i)) 1 (.int .i64 c)
theorem ret_off {a b c d : Int} (h : a = c) (g : b = d) : Ending.returned (.agg #[.int .i64 a, .int .i64 b]) = .returned (.agg #[.int .i64 c, .int .i64 d]) := by rw [h, g]
set_option maxHeartbeats 1000000 in
theorem verify_any (k : Option Addr) (kc : Nat) (ks : List Int) (r : Int) (zs : List Ins) (a : Option Addr) (c : Nat) (hn : zs.length ≤ 40) (hok : ∀ j, j < zs.length → okB (zs.getD j (0, 0)).1 (zs.getD j (0, 0)).2 = true)
    (w : World) (hg : VGiven w k ks) (hz : Lies w a (flat insC zs)) :
    Calls Tryd.prog 39 #[.slice a zs.length c, .slice k ks.length kc, .int .i64 r] w fun e w' => e = .returned (.agg #[.int .i64 (vVer zs ks r).1, .int .i64 (vVer zs ks r).2]) ∧ Below w.heap.size w w' := by
  have hmf : ∀ (fn : Fn) (first cap : Array Value) (w : World), (Instr.makeFunc fn first cap).run Tryd.prog w = .ok (.func fn first cap) w := fun _ _ _ _ => rfl
  have b1 : Below w.heap.size w (w.alloc (offO 0 1)) := (Below.refl w.heap.size w).alloc (Nat.le_refl _) _
  have hg1 := hg.at b1
  have hz1 := hz.below b1 (Nat.le_refl _)
  have hst : WStat (w.alloc (offO 0 1)).heap.size (w.heap.size + 1) (.slice k ks.length kc) r 0 ⟨[], []⟩ ((w.alloc (offO 0 1)).alloc (wkO (.slice k ks.length kc) r 0 none 0 0 none 0 0)) :=
    ⟨none, 0, 0, none, 0, 0, by simp, heap_alloc2_new w _ _, World.ownsRow_nil _ _ _ _, World.ownsRow_nil _ _ _ _⟩
  have b2 : Below (w.alloc (offO 0 1)).heap.size (w.alloc (offO 0 1)) ((w.alloc (offO 0 1)).alloc (wkO (.slice k ks.length kc) r 0 none 0 0 none 0 0)) := (Below.refl _ _).alloc (Nat.le_refl _) _
  have HP := Lib.hid (pass_any _ k kc ks hg1 (w.heap.size + 1) r zs a c hn hz1 hok _ b2 hst)
  have HB1 := Lib.hid b1
  have HB2 := Lib.hid b2
  have HF := Lib.hid (box_new w (offO 0 1))
  obtain ⟨V, hV⟩ : ∃ V, vVer zs ks r = V := ⟨_, rfl⟩
  have HV := Lib.hid hV
  have HE := Lib.hid (vRun_end (ks := ks) (r := r) zs 0 ⟨[], []⟩)
  have HVP := Lib.hid (fun h => vVer_pass (ks := ks) (r := r) (zs := zs) h)
  have HVF := Lib.hid (fun h => vVer_fin (ks := ks) (r := r) (zs := zs) h)
  rw [hV]
  clear hg hz hok b1 b2 hg1 hz1 hst hV
  generalize zs.length = n at *
  go_enter_defers Tryd.func39, Tryd.ntmps39
  go_wp2_with fail
  refine Calls.mono HP.out ?_
  rintro e w3 ⟨hb3, h3⟩
  have HB3 := Lib.hid hb3
  have hf3 := (hb3.block w.heap.size (by simp)).trans (alloc_at HF.out (wkO (.slice k ks.length kc) r 0 none 0 0 none 0 0))
  have HF3 := Lib.hid hf3
  have HB := Lib.hid (HB1.out.trans ((HB2.out.trans hb3).mono (by simp)))
  clear hb3 hf3 HF HP HB3
  rcases h3 with ⟨h0, rfl, hs3, hp3⟩ | ⟨h0, rfl⟩
  case inr =>
    have HX := Lib.hid ((HV.out.symm.trans (HVP.out h0)))
    clear h0 HVP HVF HE
    generalize (((vRun ks r zs 0 ⟨[], []⟩).2.2 : Nat) : Int) = i at *
    generalize (vRun ks r zs 0 ⟨[], []⟩).2.1 = d at *
    refine leaves_cons (f := 67) (args := #[.pointer (some ⟨w.heap.size, 0, none⟩)]) (by simp) (by simp [go_sem]) ?_
    refine CallsD.mono (catch_panicking w.heap.size i d 0 1 [] w3 HF3.out) ?_
    rintro e u' w'' ⟨rfl, rfl, rfl⟩
    have hX := off_set (alloc_at HF3.out (offO i d)) i d
    have hc0 := cell_of_row _ _ 0 _ _ _ hX
    have hc1 := cell_of_row _ _ 1 _ _ _ hX
    refine ⟨.agg #[.int .i64 i, .int .i64 d], by simp [results, Tryd.results39, go_sem, hc0, hc1], ret_off (by rw [HX.out]) (by rw [HX.out]), ?_⟩
    exact ((HB.out.alloc HB.out.size _).setCell (p := ⟨w.heap.size, 0, none⟩) (Nat.le_refl _) _).setCell (p := ⟨w.heap.size, 1, none⟩) (Nat.le_refl _) _
  have HX := Lib.hid (HV.out.symm.trans (HVF.out h0))
  have he := HE.out h0
  rw [Nat.zero_add] at he
  rw [he] at hs3
  have HF := Lib.hid (finish_any hs3 hp3)
  clear h0 HVP HVF HE he hs3 hp3
  go_wp2_with fail
  refine Calls.mono HF.out ?_
  rintro e w4 ⟨hb4, h4⟩
  have HF4 := Lib.hid ((hb4.block w.heap.size (by simp)).trans HF3.out)
  have HB := Lib.hid (HB.out.trans (hb4.mono (by simp)))
  clear hb4 HF
  rcases h4 with ⟨h0, rfl⟩ | ⟨h0, rfl⟩
  case inr =>
    generalize finC (vRun ks r zs 0 ⟨[], []⟩).1 n = F at *
    obtain ⟨i, d⟩ := F
    dsimp only at *
    refine leaves_cons (f := 67) (args := #[.pointer (some ⟨w.heap.size, 0, none⟩)]) (by simp) (by simp [go_sem]) ?_
    refine CallsD.mono (catch_panicking w.heap.size i d 0 1 [] w4 HF4.out) ?_
    rintro e u' w'' ⟨rfl, rfl, rfl⟩
    have hX := off_set (alloc_at HF4.out (offO i d)) i d
    have hc0 := cell_of_row _ _ 0 _ _ _ hX
    have hc1 := cell_of_row _ _ 1 _ _ _ hX
    refine ⟨.agg #[.int .i64 i, .int .i64 d], by simp [results, Tryd.results39, go_sem, hc0, hc1], ret_off (by rw [HX.out]) (by rw [HX.out]), ?_⟩
    exact ((HB.out.alloc HB.out.size _).setCell (p := ⟨w.heap.size, 0, none⟩) (Nat.le_refl _) _).setCell (p := ⟨w.heap.size, 1, none⟩) (Nat.le_refl _) _
  have HX := Lib.hid (HX.out.trans (finC_zero h0))
  have g0 : w4.cell? ⟨w.heap.size, 0, none⟩ = some (.int .i64 0) := cell_of_row _ _ 0 _ _ _ HF4.out
  have g1 : w4.cell? ⟨w.heap.size, 1, none⟩ = some (.int .i64 1) := cell_of_row _ _ 1 _ _ _ HF4.out
  have q0 : w4.frozen? ⟨w.heap.size, 0, none⟩ = false := frozen_of_row _ _ 0 _ _ HF4.out
  have q1 : w4.frozen? ⟨w.heap.size, 1, none⟩ = false := frozen_of_row _ _ 1 _ _ HF4.out
  clear h0
  go_wp2
  refine leaves_cons (f := 67) (args := #[.pointer (some ⟨w.heap.size, 0, none⟩)]) (by simp) (by simp [go_sem]) ?_
  refine CallsD.mono (catch_idle w.heap.size _) ?_
  rintro e u' w'' ⟨rfl, rfl, rfl⟩
  have hX := alloc_at (off_set HF4.out 0 0) (offO 0 0)
  have hc0 := cell_of_row _ _ 0 _ _ _ hX
  have hc1 := cell_of_row _ _ 1 _ _ _ hX
  refine ⟨.agg #[.int .i64 0, .int .i64 0], by simp [results, Tryd.results39, go_sem, hc0, hc1], ret_off (by rw [HX.out]) (by rw [HX.out]), ?_⟩
  have hb := ((HB.out.setCell (p := ⟨w.heap.size, 0, none⟩) (Nat.le_refl _) (.int .i64 0)).setCell (p := ⟨w.heap.size, 1, none⟩) (Nat.le_refl _) (.int .i64 0))
  exact hb.alloc hb.size _
end Go.Proofs.YtbbhoaljldgjeaaDoor
