/- The spec's copy of a new core; its NewCore. -/
import Derived.Test.YtnehaidkhpjpbaaDoorNewS
namespace Go.Proofs.YtnehaidkhpjpbaaDoor
open Go.ChangeShapes Go.WideShapes Go.ChangeAt Go.RowKit
set_option linter.unusedVariables false
theorem own_some' {w : World} {B size n : Nat} {e : TypeId} {v : Value} {xs : List Value} (h : w.ownsRow B e size v n xs) (hn : v ≠ .slice none 0 0) : ∃ g c, v = .slice (some ⟨g, 0, none⟩) n c := by
  rcases own_form h with ⟨h0, _⟩ | h1
  · exact absurd h0 hn
  · exact h1
theorem own_ne_set {w : World} {B size n c g p i : Nat} {e : TypeId} {xs : List Value} (h : w.ownsRow B e size (.slice (some ⟨g, 0, none⟩) n c) n xs) (hp : g ≠ p) (u : Value) : (w.setCell ⟨p, i, none⟩ u).ownsRow B e size (.slice (some ⟨g, 0, none⟩) n c) n xs := by
  obtain ⟨h1, h2⟩ := h
  refine ⟨h1, ?_⟩
  rcases h2 with ⟨h0, _⟩ | ⟨g', cap, cur, e1, h3, h4, h5⟩
  · cases h0
  · have hg : g = g' := by
      simp only [Value.slice.injEq, Option.some.injEq, Addr.mk.injEq, and_true, true_and] at e1
      exact e1.1
    exact .inr ⟨g', cap, cur, e1, h3, blk_far h4 (by omega) u, h5⟩
theorem Bx2.grn {w X Y : World} {O O' : Obj} {row : Option Nat} (h : Bx2 w O O' X) (g : X.grownBy Y row) (hr : ∀ q, row = some q → w.heap.size + 2 ≤ q) : Bx2 w O O' Y := by
  have h0 := (Array.getElem?_eq_some_iff.1 h.box).1
  have h1 := (Array.getElem?_eq_some_iff.1 h.box2).1
  exact ⟨h.bel.grown g h.bel.size (fun k e => by have := hr k e; omega), (g.block _ h0 (fun e => by have := hr _ e.symm; omega)).trans h.box, (g.block _ h1 (fun e => by have := hr _ e.symm; omega)).trans h.box2⟩
theorem Bx2.set {w X : World} {O O' : Obj} (h : Bx2 w O O' X) {p i : Nat} (hp : w.heap.size + 2 ≤ p) (u : Value) : Bx2 w O O' (X.setCell ⟨p, i, none⟩ u) :=
  ⟨bel_set h.bel (by omega) u, blk_far h.box (by omega) u, blk_far h.box2 (by omega) u⟩
def ToCPostF (C : Cor) (w : World) (e : Ending) (w' : World) : Prop := ∃ H : CH, e = .returned (cV H C) ∧ CLies w' H C ∧ (∀ (p i j : Nat) (u v : Value), p < w.heap.size → CLies ((w'.setCell ⟨p, i, none⟩ u).setCell ⟨p, j, none⟩ v) H C) ∧ Below w.heap.size w w'
set_option maxRecDepth 100000 in
set_option maxHeartbeats 2000000 in
theorem l07Own1_any (r g l h n : Nat) (hn : n ≤ 1) (w : World) (hy : OneC w r g l) :
    Calls Tryd.prog 78 #[.agg #[.slice (some ⟨g, 0, none⟩) n 1, .slice (some ⟨h, 0, none⟩) 0 0]] w (ToCPostF ⟨List.replicate n ((r : Int), 0, []), []⟩ w) := by
  obtain ⟨i0, hi, hz0, hz1, hz2⟩ := info_parts (show (Tryd.prog.info? 3).map (fun i => (i.zero, i.size, i.bytes)) = some (some (.int .i64 0), 1, 8) by kernel_rfl)
  have HI := Lib.hid (And.intro hi (And.intro hz0 (And.intro hz1 hz2)))
  clear hi hz0 hz1 hz2
  obtain ⟨i1, hi, hz0, hz1, hz2⟩ := info_parts (show (Tryd.prog.info? 149).map (fun i => (i.zero, i.size, i.bytes)) = some (some (.agg #[.int .i64 0, .int .i64 0, .slice none 0 0]), 3, 40) by kernel_rfl)
  have HJ := Lib.hid (And.intro hi (And.intro hz0 (And.intro hz1 hz2)))
  clear hi hz0 hz1 hz2
  have HY := Lib.hid hy
  have HBX := Lib.hid (Bx2.start w (.cells #[.slice (some ⟨g, 0, none⟩) n 1, .slice (some ⟨h, 0, none⟩) 0 0] 62) (.cells #[.slice none 0 0, .slice none 0 0] 62))
  have HP : Hid (∀ (H : CH) (w' : World), CLies w' H ⟨List.replicate n ((r : Int), 0, []), []⟩ → (∀ (p i j : Nat) (u v : Value), p < w.heap.size → CLies ((w'.setCell ⟨p, i, none⟩ u).setCell ⟨p, j, none⟩ v) H ⟨List.replicate n ((r : Int), 0, []), []⟩) → Below w.heap.size w w' → ToCPostF ⟨List.replicate n ((r : Int), 0, []), []⟩ w (.returned (cV H ⟨List.replicate n ((r : Int), 0, []), []⟩)) w') := Lib.hid (fun H w' h1 h2 h3 => ⟨H, rfl, h1, h2, h3⟩)
  have HFR : Hid (∀ (w' : World) (B g' c l' cc : Nat), w'.ownsRow B 149 3 (.slice (some ⟨g', 0, none⟩) n c) n (flat frC (List.replicate n ((r : Int), (0 : Int), some (⟨l', 0, none⟩ : Addr), 0, cc))) → Frs w' (some ⟨g', 0, none⟩) (List.replicate n ((r : Int), 0, []))) := Lib.hid (fun w' B g' c l' cc h1 => by
    refine ⟨List.replicate n ((r : Int), (0 : Int), some (⟨l', 0, none⟩ : Addr), 0, cc), by simp, lies_own h1, fun j hj => ?_⟩
    simp only [List.length_replicate] at hj
    have e1 : (List.replicate n ((r : Int), (0 : Int), some (⟨l', 0, none⟩ : Addr), 0, cc)).getD j fr0 = ((r : Int), (0 : Int), some (⟨l', 0, none⟩ : Addr), 0, cc) := by simp [List.getD, hj]
    have e2 : (List.replicate n ((r : Int), (0 : Int), ([] : List Int))).getD j fm0 = ((r : Int), 0, []) := by simp [List.getD, hj]
    rw [e1, e2]
    exact ⟨rfl, rfl, rfl, .inl rfl⟩)
  clear hy
  generalize ToCPostF ⟨List.replicate n ((r : Int), 0, []), []⟩ w = POST at *
  go_enter Tryd.func78, Tryd.ntmps78
  go_wp2
  go_loopw [3, 4, 5] (fun v i _ wr => ∃ k g' c l' cc : Nat, k ≤ n ∧ v = .slice (some ⟨g', 0, none⟩) k c ∧ i = .int .i64 k ∧ Hid (wr.ownsRow (w.heap.size + 2) 149 3 (.slice (some ⟨g', 0, none⟩) k c) k (flat frC (List.replicate k ((r : Int), (0 : Int), some (⟨l', 0, none⟩ : Addr), 0, cc)))) ∧ Hid (Bx2 w (.cells #[.slice (some ⟨g, 0, none⟩) n 1, .slice (some ⟨h, 0, none⟩) 0 0] 62) (.cells #[.slice none 0 0, .slice none 0 0] 62) wr)) (fun _ i _ _ => n - (intOf i).toNat)
  case atStart => exact ⟨0, w.heap.size + 2, 0, 0, 0, Nat.zero_le _, by simp, rfl, Lib.hid (by have := World.ownsRow_lit (base := w.heap.size + 2) (e := 149) (size := 3) ((w.alloc (.cells #[.slice (some ⟨g, 0, none⟩) n 1, .slice (some ⟨h, 0, none⟩) 0 0] 62)).alloc (.cells #[.slice none 0 0, .slice none 0 0] 62)) #[] 0 (by simp) (Nat.zero_le _) rfl; simpa [flat] using this), Lib.hid (HBX.out.to (dbox _ _))⟩
  case round =>
    obtain ⟨k, g', c, l', cc, hk, rfl, rfl, ho, hb⟩ := hrel
    have p0 := cell_of_row wr w.heap.size 0 _ _ _ hb.out.box
    by_cases hlt : k < n
    · obtain rfl : k = 0 := by omega
      obtain rfl : n = 1 := by omega
      have hy2 := HY.out.below hb.out.bel
      have d0 := hy2.c0
      have d1 := hy2.c1
      have d2 := hy2.c2
      have hsz := hb.out.bel.size
      have hlo := (Array.getElem?_eq_some_iff.1 hb.out.box2).1
      have hgg := (ho.out.lt g' rfl).2
      have ha := dbox wr (.cells #[.int .i64 (r : Int), .int .i64 0, .slice (some ⟨l, 0, none⟩) 0 0] 149)
      have ka := heap_alloc_new wr (.cells #[.int .i64 (r : Int), .int .i64 0, .slice (some ⟨l, 0, none⟩) 0 0] 149)
      have u0 := cell_of_row _ wr.heap.size 0 _ _ _ ka
      have u1 := cell_of_row _ wr.heap.size 1 _ _ _ ka
      have u2 := cell_of_row _ wr.heap.size 2 _ _ _ ka
      have KA := Lib.hid (blk_bel ka (dbox (wr.alloc (.cells #[.int .i64 (r : Int), .int .i64 0, .slice (some ⟨l, 0, none⟩) 0 0] 149)) (.cells #[] 3)))
      have v2 := cell_of_row _ wr.heap.size 2 _ _ _ KA.out
      have BA := Lib.hid ((hb.out.to ha).to (dbox (wr.alloc (.cells #[.int .i64 (r : Int), .int .i64 0, .slice (some ⟨l, 0, none⟩) 0 0] 149)) (.cells #[] 3)))
      have OA := Lib.hid (own_bl (own_bl ho.out ha) (dbox (wr.alloc (.cells #[.int .i64 (r : Int), .int .i64 0, .slice (some ⟨l, 0, none⟩) 0 0] 149)) (.cells #[] 3)))
      have LIT : Hid (((wr.alloc (.cells #[.int .i64 (r : Int), .int .i64 0, .slice (some ⟨l, 0, none⟩) 0 0] 149)).alloc (.cells #[] 3)).ownsRow (w.heap.size + 2) 3 1 (.slice (some ⟨wr.heap.size + 1, 0, none⟩) 0 0) 0 []) := Lib.hid (by
        have := World.ownsRow_lit (base := w.heap.size + 2) (e := 3) (size := 1) (wr.alloc (.cells #[.int .i64 (r : Int), .int .i64 0, .slice (some ⟨l, 0, none⟩) 0 0] 149)) #[] 0 (by simp; omega) (Nat.zero_le _) rfl
        simpa using this)
      have HLO := Lib.hid hlo
      have HGG := Lib.hid hgg
      clear ha ka hlo hgg hy2 hsz
      obtain ⟨H1, H2, H3, H4⟩ := HI.out
      obtain ⟨J1, J2, J3, J4⟩ := HJ.out
      go_wp2_with first
        | (at_builtin; refine wpList_append_own _ rfl (.tmp 19) (.tmp 21) _ rfl (w.heap.size + 2) 3 i0 _ 1 8 Tryd.underlying23 H1 H2 H3 H4 rfl (by decide) (.slice (some ⟨wr.heap.size + 1, 0, none⟩) 0 0) 0 [] rfl LIT.out ⟨l, 0, none⟩ 0 0 [] rfl rfl (fun j u hu => by simp at hu) (fun u hu => by simp at hu) (by unfold maxLen; omega) (by omega) (by have := HLO.out; simp; omega) ?_; intro v3 w3 ho3 hg3 hn3; obtain ⟨g3, c3, rfl⟩ := own_some' ho3 (fun e => by have := hn3.1 e; simp at this); have BB := Lib.hid (BA.out.grn hg3 (fun q hq => by simp only [Value.ownBlock, Option.some.injEq] at hq; have := HLO.out; omega)); have OB := Lib.hid (OA.out.kept hg3 (Or.inr (by simp only [Value.ownBlock, ne_eq, Option.some.injEq]; have := HGG.out; omega))); have KB := Lib.hid ((hg3.block wr.heap.size (Array.getElem?_eq_some_iff.1 KA.out).1 (by simp only [Value.ownBlock, ne_eq, Option.some.injEq]; omega)).trans KA.out); have s0 := cell_of_row w3 wr.heap.size 0 _ _ _ KB.out; have s1 := cell_of_row w3 wr.heap.size 1 _ _ _ KB.out; have s2 := cell_of_row w3 wr.heap.size 2 _ _ _ KB.out; have t2 := frozen_of_row w3 wr.heap.size 2 _ _ KB.out; clear ho3 hg3 hn3)
        | (at_builtin; refine wpList_append_own _ rfl (.tmp 24) (.tmp 26) _ rfl (w.heap.size + 2) 149 i1 _ 3 40 Tryd.underlying60 J1 J2 J3 J4 rfl (by decide) (.slice (some ⟨g', 0, none⟩) 0 c) 0 (flat frC (List.replicate 0 ((r : Int), (0 : Int), some (⟨l', 0, none⟩ : Addr), 0, cc))) rfl (own_bl (own_ne_set OB.out (by have := HGG.out; omega) _) (dbox _ _)) ⟨w3.heap.size, 0, none⟩ 1 1 [.int .i64 (r : Int), .int .i64 0, .slice (some ⟨g3, 0, none⟩) 0 c3] rfl rfl (three_at _ (by simp [World.setCell]) _ _ _ _) (by simp [Value.oneCell']) (by unfold maxLen; omega) (by omega) (by have := HLO.out; have := BB.out.bel.size; have := (Array.getElem?_eq_some_iff.1 BB.out.box2).1; simp [World.setCell]; omega) ?_; intro v4 w4 ho4 hg4 hn4; obtain ⟨g4, c4, rfl⟩ := own_some' ho4 (fun e => by have := hn4.1 e; simp at this); have HO4 := Lib.hid ho4; have BC := Lib.hid (((BB.out.set (p := wr.heap.size) (i := 2) (by have := HLO.out; omega) (.slice (some ⟨g3, 0, none⟩) 0 c3)).to (dbox _ (.cells #[.int .i64 (r : Int), .int .i64 0, .slice (some ⟨g3, 0, none⟩) 0 c3] 149))).grn hg4 (fun q hq => by simp only [Value.ownBlock, Option.some.injEq] at hq; have := (OB.out.lt g' rfl).1; omega)); clear ho4 hg4 hn4)
      exact ⟨⟨1, g4, c4, g3, c3, Nat.le_refl _, rfl, rfl, Lib.hid (by have := HO4.out; simpa [flat, frC] using this), BC⟩, by simp [intOf]⟩
    · obtain rfl : k = n := by omega
      have hlo := (Array.getElem?_eq_some_iff.1 hb.out.box2).1
      have hgg := (ho.out.lt g' rfl).2
      have p1 := cell_of_row wr w.heap.size 1 _ _ _ hb.out.box
      have BA := Lib.hid (hb.out.to (dbox wr (.cells #[] 3)))
      have p2 := cell_of_row _ w.heap.size 1 _ _ _ BA.out.box
      have OA := Lib.hid (own_bl ho.out (dbox wr (.cells #[] 3)))
      have LIT : Hid ((wr.alloc (.cells #[] 3)).ownsRow (w.heap.size + 2) 3 1 (.slice (some ⟨wr.heap.size, 0, none⟩) 0 0) 0 []) := Lib.hid (World.ownsRow_lit (base := w.heap.size + 2) (e := 3) (size := 1) wr #[] 0 (by omega) (Nat.zero_le _) rfl)
      have HLO := Lib.hid hlo
      have HGG := Lib.hid hgg
      clear hlo hgg
      obtain ⟨H1, H2, H3, H4⟩ := HI.out
      go_wp2_with (at_builtin; go_must (refine wpList_append_own _ rfl (.tmp 29) (.tmp 31) _ rfl (w.heap.size + 2) 3 i0 _ 1 8 Tryd.underlying23 H1 H2 H3 H4 rfl (by decide) (.slice (some ⟨wr.heap.size, 0, none⟩) 0 0) 0 [] rfl LIT.out ⟨h, 0, none⟩ 0 0 [] rfl rfl (fun j u hu => by simp at hu) (fun u hu => by simp at hu) (by unfold maxLen; omega) (by omega) (by have := HLO.out; simp; omega) ?_); intro v3 w3 ho3 hg3 hn3; obtain ⟨g3, c3, rfl⟩ := own_some' ho3 (fun e => by have := hn3.1 e; simp at this); have BB := Lib.hid (BA.out.grn hg3 (fun q hq => by simp only [Value.ownBlock, Option.some.injEq] at hq; have := HLO.out; omega)); have OB := Lib.hid (OA.out.kept hg3 (Or.inr (by simp only [Value.ownBlock, ne_eq, Option.some.injEq]; have := HGG.out; omega))); have OI := Lib.hid (lies_own ho3); have s0 := cell_of_row w3 (w.heap.size + 1) 0 _ _ _ BB.out.box2; have s1 := cell_of_row w3 (w.heap.size + 1) 1 _ _ _ BB.out.box2; have t0 := frozen_of_row w3 (w.heap.size + 1) 0 _ _ BB.out.box2; have t1 := frozen_of_row w3 (w.heap.size + 1) 1 _ _ BB.out.box2; clear ho3 hg3 hn3)
      have HX := HP.out ⟨some ⟨g', 0, none⟩, some ⟨g3, 0, none⟩, c, c3⟩
      refine bodyPost_ret (v := .agg #[.slice (some ⟨g', 0, none⟩) k c, .slice (some ⟨g3, 0, none⟩) 0 c3]) (by simp [results, Tryd.results78, go_sem, s0, s1]) rfl ?_
      rw [show cV ⟨some ⟨g', 0, none⟩, some ⟨g3, 0, none⟩, c, c3⟩ ⟨List.replicate k ((r : Int), 0, []), []⟩ = .agg #[.slice (some ⟨g', 0, none⟩) k c, .slice (some ⟨g3, 0, none⟩) 0 c3] from by simp] at HX
      refine HX _ ⟨HFR.out _ (w.heap.size + 2) g' c l' cc ?_, .inl rfl⟩ (fun p i j u v hp => ⟨HFR.out _ (w.heap.size + 2) g' c l' cc ?_, .inl rfl⟩) ?_
      · have hgb := (OB.out.lt g' rfl).1
        exact own_ne_set (own_ne_set OB.out (by omega) _) (by omega) _
      · have hgb := (OB.out.lt g' rfl).1
        exact own_ne_set (own_ne_set (own_ne_set (own_ne_set OB.out (by omega) _) (by omega) _) (by omega) _) (by omega) _
      · exact bel_set (bel_set BB.out.bel (by omega) _) (by omega) _
theorem newF_rep (ls : List (List Ins)) (r : Nat) : newF ls r = List.replicate (newN ls r) ((r : Int), 0, []) := by unfold newF newN; split <;> rfl
def NSPost (ls : List (List Ins)) (ks : List Int) (r : Int) (w : World) (e : Ending) (w' : World) : Prop := ∃ H : CH, e = .returned (.tuple #[cV H ⟨newFs ls ks r, []⟩, .int .i64 (newC ls ks r)]) ∧ CLies w' H ⟨newFs ls ks r, []⟩ ∧ Below w.heap.size w w'
set_option maxRecDepth 100000 in
set_option maxHeartbeats 2000000 in
theorem specNewCore_any (a : Option Addr) (c : Nat) (ls : List (List Ins)) (ks : List Int) (k : Option Addr) (kc : Nat) (r : Int) (hm : ls.length ≤ maxLen) (hl : ∀ j, j < ls.length → (ls.getD j []).length ≤ maxLen) (hk : ks.length ≤ maxLen) (w : World) (hz : Routs w a ls) (hy : Lies w k (kC ks)) :
    Calls Tryd.prog 41 #[.slice a ls.length c, .slice k ks.length kc, .int .i64 r] w (NSPost ls ks r w) := by
  have HB := Lib.hid (dbox w (.cells #[.slice none 0 0, .slice none 0 0] 62))
  have HV := Lib.hid (specVerifyAll_any a c ls ks k kc hm hl hk _ (hz.below HB.out) (hy.below HB.out (Nat.le_refl _)))
  have HK := Lib.hid (heap_alloc_new w (.cells #[.slice none 0 0, .slice none 0 0] 62))
  have HZ := Lib.hid hz
  have HNO : Hid (∀ w' z, newC ls ks r = z → z ≠ 0 → Below w.heap.size w w' → NSPost ls ks r w (.returned (.tuple #[.agg #[.slice none 0 0, .slice none 0 0], .int .i64 z])) w') := Lib.hid (fun w' z h1 h2 h3 => by
    subst h1
    have e : newFs ls ks r = [] := if_neg h2
    unfold NSPost
    rw [e]
    exact ⟨⟨none, none, 0, 0⟩, rfl, ⟨Frs.nil _ _, .inl rfl⟩, h3⟩)
  have HSZ : Hid ((w.alloc (.cells #[.slice none 0 0, .slice none 0 0] 62)).heap.size = w.heap.size + 1) := Lib.hid (by simp)
  have hm' := hm
  have hk' := hk
  unfold maxLen at hm' hk'
  by_cases h1 : 4096 < ls.length ∨ 4096 < ks.length
  · have hF : (allF ls ks).2.2 = 2 := by unfold allF; rw [if_pos h1]
    have HN := Lib.hid (fun w' hb => HNO.out w' 2 (by rw [newC_bad (by rw [hF]; decide), hF]) (by decide) hb)
    have k0 := HK.out
    have c0 := cell_of_row _ w.heap.size 0 _ _ _ k0
    have c1 := cell_of_row _ w.heap.size 1 _ _ _ k0
    have f0 := frozen_of_row _ w.heap.size 0 _ _ k0
    have f1 := frozen_of_row _ w.heap.size 1 _ _ k0
    clear hz hy HV hF hm hl hk HNO k0
    generalize NSPost ls ks r w = POST at *
    by_cases h2 : 4096 < ls.length
    · clear h1
      generalize ls.length = n at *
      generalize ks.length = m at *
      go_enter Tryd.func41, Tryd.ntmps41
      go_wp2
      refine bodyPost_ret (v := .tuple #[.agg #[.slice none 0 0, .slice none 0 0], .int .i64 2]) (by simp [results, Tryd.results41, go_sem, c0, c1]) rfl (HN.out _ ?_)
      exact HB.out
    · have h3 : 4096 < ks.length := by omega
      clear h1
      generalize ls.length = n at *
      generalize ks.length = m at *
      go_enter Tryd.func41, Tryd.ntmps41
      go_wp2
      refine bodyPost_ret (v := .tuple #[.agg #[.slice none 0 0, .slice none 0 0], .int .i64 2]) (by simp [results, Tryd.results41, go_sem, c0, c1]) rfl (HN.out _ ?_)
      exact HB.out
  have hz1 : ¬ 4096 < ls.length := by omega
  have hk1 : ¬ 4096 < ks.length := by omega
  clear h1
  by_cases hv : (allF ls ks).2.2 = 0
  case neg =>
    have HN := Lib.hid (fun w' hb => HNO.out w' (allF ls ks).2.2 (newC_bad hv) hv hb)
    have hb0 : ((allF ls ks).2.2 != 0) = true := by rw [bne_iff_ne]; exact hv
    clear hz hy hm hl hk hv HNO
    generalize NSPost ls ks r w = POST at *
    generalize (allF ls ks).1 = x at *
    generalize (allF ls ks).2.1 = y at *
    generalize (allF ls ks).2.2 = z at *
    generalize ls.length = n at *
    generalize ks.length = m at *
    go_enter Tryd.func41, Tryd.ntmps41
    go_wp2_with fail
    refine Calls.mono HV.out ?_
    rintro e w1 ⟨rfl, hb1⟩
    have k0 := blk_bel HK.out hb1
    have c0 := cell_of_row w1 w.heap.size 0 _ _ _ k0
    have c1 := cell_of_row w1 w.heap.size 1 _ _ _ k0
    have f0 := frozen_of_row w1 w.heap.size 0 _ _ k0
    have f1 := frozen_of_row w1 w.heap.size 1 _ _ k0
    have HB1 := Lib.hid (HB.out.trans (hb1.mono HB.out.size))
    clear hb1 k0
    go_wp2
    refine bodyPost_ret (v := .tuple #[.agg #[.slice none 0 0, .slice none 0 0], .int .i64 z]) (by simp [results, Tryd.results41, go_sem, c0, c1]) rfl (HN.out _ ?_)
    exact bel_set (bel_set HB1.out (Nat.le_refl _) _) (Nat.le_refl _) _
  rw [hv] at HV
  by_cases hr : r < 0 ∨ (ls.length : Int) ≤ r
  · have HN := Lib.hid (fun w' hb => HNO.out w' 4 (newC_rng hv hr) (by decide) hb)
    have HIN : Hid (∀ w, Calls Tryd.prog 64 #[.int .i64 r, .int .i64 0, .int .i64 ((ls.length : Int) - 1)] w fun e w' => e = .returned (.bool false) ∧ w = w') := Lib.hid (fun w => by
      have := l01In_any r 0 ((ls.length : Int) - 1) w
      rwa [decide_eq_false (by omega)] at this)
    clear hz hy hm hl hk hv HNO hr
    generalize NSPost ls ks r w = POST at *
    generalize (allF ls ks).1 = x at *
    generalize (allF ls ks).2.1 = y at *
    generalize ls.length = n at *
    generalize ks.length = m at *
    go_enter Tryd.func41, Tryd.ntmps41
    go_wp2_with fail
    refine Calls.mono HV.out ?_
    rintro e w1 ⟨rfl, hb1⟩
    have k0 := blk_bel HK.out hb1
    have c0 := cell_of_row w1 w.heap.size 0 _ _ _ k0
    have c1 := cell_of_row w1 w.heap.size 1 _ _ _ k0
    have f0 := frozen_of_row w1 w.heap.size 0 _ _ k0
    have f1 := frozen_of_row w1 w.heap.size 1 _ _ k0
    have HB1 := Lib.hid (HB.out.trans (hb1.mono HB.out.size))
    clear hb1 k0
    go_wp2_with fail
    refine Calls.mono (HIN.out _) ?_
    rintro e w' ⟨rfl, rfl⟩
    go_wp2
    refine bodyPost_ret (v := .tuple #[.agg #[.slice none 0 0, .slice none 0 0], .int .i64 4]) (by simp [results, Tryd.results41, go_sem, c0, c1]) rfl (HN.out _ ?_)
    exact bel_set (bel_set HB1.out (Nat.le_refl _) _) (Nat.le_refl _) _
  obtain ⟨q, rfl⟩ : ∃ q : Nat, r = q := ⟨r.toNat, by omega⟩
  have hq : q < ls.length := by omega
  have HF : Hid (∀ w2, Below w.heap.size w w2 → Calls Tryd.prog 79 #[.slice a ls.length c, .int .i64 q] w2 fun e w' => ∃ g l h, e = .returned (.agg #[.slice (some ⟨g, 0, none⟩) (newN ls q) 1, .slice (some ⟨h, 0, none⟩) 0 0]) ∧ OneC w' q g l ∧ Below w2.heap.size w2 w') := Lib.hid (fun w2 hb => (l07New_any ls q a c hm hl hq w2 (HZ.out.below hb)).mono fun e w' h => h)
  have HG : Hid (∀ g l h w2, OneC w2 q g l → Calls Tryd.prog 78 #[.agg #[.slice (some ⟨g, 0, none⟩) (newN ls q) 1, .slice (some ⟨h, 0, none⟩) 0 0]] w2 fun e w' => ∃ H : CH, e = .returned (.agg #[.slice H.a0 (newN ls q) H.c0, .slice H.a1 0 H.c1]) ∧ CLies w' H ⟨newF ls q, []⟩ ∧ (∀ (p i j : Nat) (u v : Value), p < w2.heap.size → CLies ((w'.setCell ⟨p, i, none⟩ u).setCell ⟨p, j, none⟩ v) H ⟨newF ls q, []⟩) ∧ Below w2.heap.size w2 w') := Lib.hid (fun g l h w2 ho => (l07Own1_any q g l h (newN ls q) (newN_le ls q) w2 ho).mono fun e w' hp => by
    obtain ⟨H, h1, h2, h4, h3⟩ := hp
    rw [← newF_rep] at h1 h2 h4
    refine ⟨H, ?_, h2, h4, h3⟩
    rw [h1]
    show Ending.returned (.agg #[.slice H.a0 (newF ls q).length H.c0, .slice H.a1 ([] : List Int).length H.c1]) = _
    rw [newF_len]
    rfl)
  have hC : newC ls ks q = 0 := newC_ok hv (by omega) (by omega)
  have HP : Hid (∀ (H : CH) w', CLies w' H ⟨newF ls q, []⟩ → Below w.heap.size w w' → NSPost ls ks q w (.returned (.tuple #[.agg #[.slice H.a0 (newN ls q) H.c0, .slice H.a1 0 H.c1], .int .i64 0])) w') := Lib.hid (fun H w' h2 h3 => by
    have e : newFs ls ks q = newF ls q := by unfold newFs; rw [if_pos hC, Int.toNat_natCast]
    unfold NSPost
    rw [e, hC]
    refine ⟨H, ?_, h2, h3⟩
    show _ = Ending.returned (.tuple #[.agg #[.slice H.a0 (newF ls q).length H.c0, .slice H.a1 ([] : List Int).length H.c1], .int .i64 0])
    rw [newF_len]
    rfl)
  have HIN : Hid (∀ w, Calls Tryd.prog 64 #[.int .i64 (q : Int), .int .i64 0, .int .i64 ((ls.length : Int) - 1)] w fun e w' => e = .returned (.bool true) ∧ w = w') := Lib.hid (fun w => by
    have := l01In_any q 0 ((ls.length : Int) - 1) w
    rwa [decide_eq_true (by omega)] at this)
  clear hz hy hm hl hk hv HNO hr hC hq
  generalize NSPost ls ks q w = POST at *
  generalize (allF ls ks).1 = x at *
  generalize (allF ls ks).2.1 = y at *
  generalize ls.length = n at *
  generalize ks.length = m at *
  generalize newN ls q = u at *
  generalize newF ls q = FS at *
  go_enter Tryd.func41, Tryd.ntmps41
  go_wp2_with fail
  refine Calls.mono HV.out ?_
  rintro e w1 ⟨rfl, hb1⟩
  have K1 := Lib.hid (blk_bel HK.out hb1)
  have HB1 := Lib.hid (HB.out.trans (hb1.mono HB.out.size))
  have HS1 := Lib.hid (show w.heap.size + 1 ≤ w1.heap.size by have := hb1.size; rw [HSZ.out] at this; exact this)
  clear hb1
  go_wp2_with fail
  refine Calls.mono (HIN.out _) ?_
  rintro e w' ⟨rfl, rfl⟩
  go_wp2_with fail
  refine Calls.mono (HF.out _ HB1.out) ?_
  rintro e w2 ⟨g, l, h, rfl, ho, hb2⟩
  have K2 := Lib.hid (blk_bel K1.out hb2)
  have HB2 := Lib.hid (HB1.out.trans (hb2.mono HB1.out.size))
  have HO := Lib.hid ho
  clear hb2 ho
  go_wp2_with fail
  refine Calls.mono (HG.out g l h _ HO.out) ?_
  rintro e w3 ⟨H, rfl, _, ho, hb3⟩
  have k0 := blk_bel K2.out hb3
  have c0 := cell_of_row w3 w.heap.size 0 _ _ _ k0
  have c1 := cell_of_row w3 w.heap.size 1 _ _ _ k0
  have f0 := frozen_of_row w3 w.heap.size 0 _ _ k0
  have f1 := frozen_of_row w3 w.heap.size 1 _ _ k0
  have HB3 := Lib.hid (HB2.out.trans (hb3.mono HB2.out.size))
  have HL := Lib.hid ho
  have HS2 := Lib.hid (show w.heap.size < w2.heap.size from (Array.getElem?_eq_some_iff.1 K2.out).1)
  clear hb3 k0 ho
  go_wp2
  refine bodyPost_ret (v := .tuple #[.agg #[.slice H.a0 u H.c0, .slice H.a1 0 H.c1], .int .i64 0]) (by simp [results, Tryd.results41, go_sem, c0, c1]) rfl (HP.out H _ (HL.out _ _ _ _ _ HS2.out) ?_)
  exact bel_set (bel_set HB3.out (Nat.le_refl _) _) (Nat.le_refl _) _
end Go.Proofs.YtnehaidkhpjpbaaDoor
