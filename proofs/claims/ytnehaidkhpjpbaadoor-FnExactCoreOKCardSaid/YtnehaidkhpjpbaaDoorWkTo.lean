/- The walk up to a place of accepted code. -/
import Derived.Test.YtnehaidkhpjpbaaDoorVLaw
import Derived.Test.YtnehaidkhpjpbaaDoorGen
namespace Go.Proofs.YtnehaidkhpjpbaaDoor
open Go.ChangeShapes Go.WideShapes Go.ChangeAt Go.RowKit
set_option linter.unusedVariables false
theorem stk_ok {zs : List Ins} {ks : List Int} {r : Int} (h : (codeV zs ks r).2 = 0) : argF zs ks r = 0 ∧ (vVer zs ks r).2 = 0 := by
  unfold codeV at h
  split at h
  · rename_i g
    exact absurd h g
  · rename_i g
    exact ⟨Classical.not_not.1 g, h⟩
theorem lies_take {w : World} {a : Option Addr} {zs : List Ins} (h : Lies w a (flat insC zs)) (n : Nat) : Lies w a (flat insC (zs.take n)) := by
  rcases h with h | ⟨b, o, e, h⟩
  · left
    have : zs = [] := by
      cases zs with
      | nil => rfl
      | cons x t => rw [flat_cons] at h; simp [insC] at h
    rw [this]
    simp [flat]
  · right
    refine ⟨b, o, e, fun j v hj => h j v ?_⟩
    have : flat insC zs = flat insC (zs.take n) ++ flat insC (zs.drop n) := by rw [← flat_app, List.take_append_drop]
    rw [this, List.getElem?_append_left (List.getElem?_eq_some_iff.1 hj).1]
    exact hj
theorem getD_take {zs : List Ins} {n j : Nat} (h : j < n) : (zs.take n).getD j (0, 0) = zs.getD j (0, 0) := by
  simp [List.getD, h]
def WkPost (zs : List Ins) (ks : List Int) (k : Option Addr) (kc : Nat) (r : Int) (q : Nat) (w : World) (e : Ending) (w' : World) : Prop := ∃ (st : Option Addr) (n c1 : Nat) (op : Option Addr) (m c2 : Nat), e = .returned (.agg #[.slice k ks.length kc, .int .i64 r, .int .i64 q, .slice st n c1, .slice op m c2]) ∧ w'.ownsRow w.heap.size 5 1 (.slice st n c1) n (u8s (vStack zs ks r q)) ∧ w'.ownsRow w.heap.size 164 3 (.slice op m c2) m (flat soC ((vRun ks r (zs.take q) 0 ⟨[], []⟩).1.opn.map so)) ∧ Below w.heap.size w w'
set_option maxRecDepth 100000 in
set_option maxHeartbeats 1000000 in
theorem walkTo_any (zs : List Ins) (a : Option Addr) (c : Nat) (ks : List Int) (k : Option Addr) (kc : Nat) (r : Int) (q : Nat) (hv : (codeV zs ks r).2 = 0) (hq : q ≤ zs.length) (hc : zs.length ≤ c) (w : World) (ht : VTabs w) (hz : Lies w a (flat insC zs)) (hy : Lies w k (kC ks)) :
    Calls Tryd.prog 66 #[.slice a zs.length c, .slice k ks.length kc, .int .i64 r, .int .i64 q] w (WkPost zs ks k kc r q w) := by
  obtain ⟨hA, hV⟩ := stk_ok hv
  obtain ⟨h40, hkb, hok, _, _⟩ := argF_ok hA
  have hpre := vRun_prefix (vVer_ok hV).1 q
  have HB1 := Lib.hid (dbox w (wkO (.slice none 0 0) 0 0 none 0 0 none 0 0))
  have HSZ : Hid ((w.alloc (wkO (.slice none 0 0) 0 0 none 0 0 none 0 0)).heap.size = w.heap.size + 1) := Lib.hid (by simp)
  have HK0 := Lib.hid (blk_bel (heap_alloc_new w (wkO (.slice none 0 0) 0 0 none 0 0 none 0 0)) (dbox (w.alloc (wkO (.slice none 0 0) 0 0 none 0 0 none 0 0)) (wkO (.slice k ks.length kc) r 0 none 0 0 none 0 0)))
  have HP : Hid (∀ w1, Below w.heap.size w w1 → Calls Tryd.prog 90 #[.pointer (some ⟨w1.heap.size, 0, none⟩), .slice a q c] (w1.alloc (wkO (.slice k ks.length kc) r 0 none 0 0 none 0 0)) fun e w' => e = .returned (.tuple #[]) ∧ Below w1.heap.size (w1.alloc (wkO (.slice k ks.length kc) r 0 none 0 0 none 0 0)) w' ∧ ∃ st n c1 op m c2, w'.heap[w1.heap.size]? = some (wkO (.slice k ks.length kc) r q st n c1 op m c2) ∧ w'.ownsRow w1.heap.size 5 1 (.slice st n c1) n (u8s (vStack zs ks r q)) ∧ w'.ownsRow w1.heap.size 164 3 (.slice op m c2) m (flat soC ((vRun ks r (zs.take q) 0 ⟨[], []⟩).1.opn.map so))) :=
    Lib.hid (fun w1 hb => by
      have hg1 : VGiven w1 k ks := ⟨(ht.below hb (Nat.le_refl _)).eff, (ht.below hb (Nat.le_refl _)).fb, hy.below hb (Nat.le_refl _), (kindsB_all hkb).2⟩
      have hst : WStat w1.heap.size w1.heap.size (.slice k ks.length kc) r 0 ⟨[], []⟩ (w1.alloc (wkO (.slice k ks.length kc) r 0 none 0 0 none 0 0)) :=
        ⟨none, 0, 0, none, 0, 0, Nat.le_refl _, heap_alloc_new w1 _, World.ownsRow_nil _ _ _ _, World.ownsRow_nil _ _ _ _⟩
      have hlt : (zs.take q).length = q := by rw [List.length_take]; omega
      have hh := pass_any w1 k kc ks hg1 w1.heap.size r (zs.take q) a c (by omega) (lies_take (hz.below hb (Nat.le_refl _)) q) (fun j hj => by rw [getD_take (by omega)]; exact okAll_at hok (by omega)) _ ((Below.refl _ _).alloc (Nat.le_refl _) _) hst
      rw [hlt] at hh
      have hix : (vRun ks r (zs.take q) 0 ⟨[], []⟩).2.2 = q := by
        have : ∀ (l : List Ins) (i : Nat) (v : VW), (vRun ks r l i v).2.1 = 0 → (vRun ks r l i v).2.2 = i + l.length := by
          intro l
          induction l with
          | nil => intro i v _; rfl
          | cons x t ih =>
            intro i v h
            rw [vRun] at h ⊢
            split at h
            · rename_i g
              rw [if_pos g, ih _ _ h, List.length_cons]
              omega
            · rename_i g
              exact absurd h g
        rw [this _ _ _ hpre, hlt, Nat.zero_add]
      refine hh.mono fun e w' ⟨hb', hr⟩ => ?_
      rcases hr with ⟨_, he, hs, _⟩ | ⟨hne, _⟩
      · obtain ⟨a', n', c', a2, n2, c2, hw⟩ := hs
        rw [hix] at hw
        exact ⟨he, hb', a', n', c', a2, n2, c2, hw.blk, hw.stack, hw.opens⟩
      · exact absurd hpre hne)
  have HX : Hid (∀ (st : Option Addr) (n c1 : Nat) (op : Option Addr) (m c2 : Nat) (w' : World), w'.ownsRow w.heap.size 5 1 (.slice st n c1) n (u8s (vStack zs ks r q)) → w'.ownsRow w.heap.size 164 3 (.slice op m c2) m (flat soC ((vRun ks r (zs.take q) 0 ⟨[], []⟩).1.opn.map so)) → Below w.heap.size w w' → WkPost zs ks k kc r q w (.returned (.agg #[.slice k ks.length kc, .int .i64 r, .int .i64 q, .slice st n c1, .slice op m c2])) w') := Lib.hid (fun st n c1 op m c2 w' h1 h2 h3 => ⟨st, n, c1, op, m, c2, rfl, h1, h2, h3⟩)
  clear ht hz hy hA hV hkb hok hpre hv h40
  generalize WkPost zs ks k kc r q w = POST at *
  generalize u8s (vStack zs ks r q) = XS at *
  generalize flat soC ((vRun ks r (zs.take q) 0 ⟨[], []⟩).1.opn.map so) = YS at *
  have hqn : (q : Int) ≤ zs.length := by omega
  have hqc : (q : Int) ≤ c := by omega
  generalize zs.length = n at *
  generalize ks.length = m at *
  go_enter Tryd.func66, Tryd.ntmps66
  go_wp2_with fail
  have HPP := HP.out _ HB1.out
  rw [HSZ.out] at HPP
  refine Calls.mono HPP ?_
  rintro e w2 ⟨rfl, hb2, st, n1, c1, op, m1, c2, hbox, hst, hop⟩
  have k0 := (hb2.block w.heap.size (by omega)).trans HK0.out
  have c00 := cell_of_row w2 w.heap.size 0 _ _ _ k0
  have f00 := frozen_of_row w2 w.heap.size 0 _ _ k0
  have d00 := cell_of_row w2 (w.heap.size + 1) 0 _ _ _ hbox
  have c01 := cell_of_row w2 w.heap.size 1 _ _ _ k0
  have f01 := frozen_of_row w2 w.heap.size 1 _ _ k0
  have d01 := cell_of_row w2 (w.heap.size + 1) 1 _ _ _ hbox
  have c02 := cell_of_row w2 w.heap.size 2 _ _ _ k0
  have f02 := frozen_of_row w2 w.heap.size 2 _ _ k0
  have d02 := cell_of_row w2 (w.heap.size + 1) 2 _ _ _ hbox
  have c03 := cell_of_row w2 w.heap.size 3 _ _ _ k0
  have f03 := frozen_of_row w2 w.heap.size 3 _ _ k0
  have d03 := cell_of_row w2 (w.heap.size + 1) 3 _ _ _ hbox
  have c04 := cell_of_row w2 w.heap.size 4 _ _ _ k0
  have f04 := frozen_of_row w2 w.heap.size 4 _ _ k0
  have d04 := cell_of_row w2 (w.heap.size + 1) 4 _ _ _ hbox
  have HB2 := Lib.hid ((HB1.out.trans ((dbox _ _).mono HB1.out.size)).trans (hb2.mono (by omega)))
  have HO := Lib.hid (And.intro hst hop)
  clear hb2 hst hop k0 hbox
  go_wp2
  refine bodyPost_ret (v := .agg #[.slice k m kc, .int .i64 r, .int .i64 q, .slice st n1 c1, .slice op m1 c2]) (by simp [results, Tryd.results66, go_sem, c00, c01, c02, c03, c04]) rfl (HX.out _ _ _ _ _ _ _ ?_ ?_ ?_)
  · exact own_base (own_far (own_far (own_far (own_far (own_far HO.out.1 (by omega) _) (by omega) _) (by omega) _) (by omega) _) (by omega) _) (by omega)
  · exact own_base (own_far (own_far (own_far (own_far (own_far HO.out.2 (by omega) _) (by omega) _) (by omega) _) (by omega) _) (by omega) _) (by omega)
  · exact bel_set (bel_set (bel_set (bel_set (bel_set HB2.out (Nat.le_refl _) _) (Nat.le_refl _) _) (Nat.le_refl _) _) (Nat.le_refl _) _) (Nat.le_refl _) _
end Go.Proofs.YtnehaidkhpjpbaaDoor
