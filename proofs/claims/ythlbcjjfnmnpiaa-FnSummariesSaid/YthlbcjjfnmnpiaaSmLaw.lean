/- The law of summaries. -/
import Derived.Test.YthlbcjjfnmnpiaaSmDraw
import Derived.Test.YthlbcjjfnmnpiaaCst4
import Derived.Laws.AppendOwnNone
import Derived.Deep.DeepCutAuto
namespace Go.Proofs.Ythlbcjjfnmnpiaa
open Go.ChangeShapes Go.WideShapes Go.ChangeAt Go.RowKit
set_option linter.unusedVariables false
theorem sm_bytes {W : World} {a : Option Addr} {n c : Nat} (h : Came Try.prog W 22 [.slice a n c]) : Bytes0 W W.heap.size a n ∧ (a = none → n = 0 ∧ c = 0) := by
  constructor
  · obtain ⟨h1, h2⟩ := came_ints Try.underlying22 Try.underlying5 (by kernel_rfl) h
    refine ⟨h1, fun hn => ?_⟩
    obtain ⟨x, e, hx, hc⟩ := h2 hn
    refine ⟨x, e, hx, fun i hi => ?_⟩
    obtain ⟨z, wz, hz⟩ := hc i hi
    have := bounds_u8 wz
    exact ⟨z, this.1, this.2, hz⟩
  · intro e
    rcases came_slice Try.underlying22 h with h0 | ⟨x, len, cap, hcs, _⟩
    · simp only [List.cons.injEq, Value.slice.injEq, and_true] at h0
      omega
    · simp only [List.cons.injEq, Value.slice.injEq, and_true] at hcs
      rw [e] at hcs
      cases hcs.1
theorem Bytes0.belS {w w' : World} {n : Nat} {a : Option Addr} {B : Nat} (h : Bytes0 w B a n) (hb : Below B w w') (hB : B ≤ w'.heap.size) : Bytes0 w' w'.heap.size a n := ⟨h.1, fun hn => by
  obtain ⟨x, e, hx, hc⟩ := h.2 hn
  refine ⟨x, e, by omega, fun i hi => ?_⟩
  obtain ⟨z, z0, z1, hz⟩ := hc i hi
  exact ⟨z, z0, z1, (hb.cell (by rw [add_block]; exact hx)).trans hz⟩⟩
theorem summaryDrawn_any (a : Option Addr) (n c : Nat) (w : World) (h : Bytes0 w w.heap.size a n) :
    Calls Try.prog 10 #[.slice a n c] w fun e w' => ∃ s : SM, e = .returned (smV s) ∧ s.ok ∧ Below w.heap.size w w' := by
  have HB0 := Lib.hid (sm_al w (smO sm0))
  have HB := Lib.hid (h.belS HB0.out HB0.out.size)
  clear h
  go_enter Try.func10, Try.ntmps10
  go_wp2_with fail
  refine (source_any a n c _ HB.out).mono ?_
  rintro e w1 ⟨rfl, hS, hb1⟩
  have hsz : (w.alloc (smO sm0)).heap.size = w.heap.size + 1 := by simp
  rw [hsz] at hS hb1
  have H1 := Lib.hid hS
  have B1 := Lib.hid hb1
  clear hS hb1 hsz
  go_wp2_with fail
  refine (summary_draw _ _ 0 _ H1.out (by omega)).mono ?_
  rintro e w2 ⟨s, rfl, hok, hS2, hg2⟩
  have B2 := Lib.hid (B1.out.grown hg2 (by have := B1.out.size; simpa using this) (by intro k hk; cases hk; exact Nat.le_refl _))
  have B2 : Hid (Below (w.alloc (smO sm0)).heap.size (w.alloc (smO sm0)) w2) := Lib.hid (B2.out.mono (by simp))
  have HOK := Lib.hid hok
  have k2 := (B2.out.block w.heap.size (by simp)).trans (heap_alloc_new w _)
  have B3 := Lib.hid (HB0.out.trans (B2.out.mono HB0.out.size))
  obtain ⟨⟨c0, c1, c2, c3, c4⟩, ⟨f0, f1, f2, f3, f4⟩, -⟩ := sm_cells k2
  clear hok hS2 hg2 k2
  go_wp2
  refine bodyPost_ret (v := smV s) (by simp [results, Try.results10, go_sem, c0, c1, c2, c3, c4]) rfl ⟨s, rfl, HOK.out, ?_⟩
  exact sm_set5 B3.out _ (Nat.le_refl _) s
/-- Summaries that lie in blocks of their own. -/
def Mem (l : List (Nat × SM)) (w : World) : Prop := ∀ q ∈ l, w.heap[q.1]? = some (smO q.2)
theorem Mem.bel {l : List (Nat × SM)} {w w' : World} (h : Mem l w) (hb : Below w.heap.size w w') : Mem l w' := fun q hq => blk_bel (h q hq) hb
theorem Mem.add {l : List (Nat × SM)} {w : World} (h : Mem l w) (x : SM) : Mem ((w.heap.size, x) :: l) (w.alloc (smO x)) := fun q hq => by
  rcases List.mem_cons.1 hq with rfl | hq
  · exact heap_alloc_new w (smO x)
  · exact bl_al (h q hq) _
theorem Mem.grownS {l : List (Nat × SM)} {w0 w1 w3 : World} {g : Nat} (h : Mem l w0) (hb : Below w0.heap.size w0 w1) (hg : w1.grownBy w3 (some g)) (hgs : w0.heap.size ≤ g) : Mem l w3 := fun q hq => by
  have h1 := blk_bel (h q hq) hb
  have h2 := (Array.getElem?_eq_some_iff.1 (h q hq)).1
  exact (hg.block q.1 (Array.getElem?_eq_some_iff.1 h1).1 (by intro e; injection e with e; omega)).trans h1
theorem row7 {xs : List Value} (h : ∀ u ∈ xs, ∃ z : Int, 0 ≤ z ∧ z ≤ 255 ∧ u = .int .u8 z) : ∀ u ∈ [Value.int .u8 7] ++ xs, ∃ z : Int, 0 ≤ z ∧ z ≤ 255 ∧ u = .int .u8 z := fun u hu => by
  rcases List.mem_append.1 hu with hu | hu
  · rw [List.mem_singleton.1 hu]
    exact ⟨7, by omega, by omega, rfl⟩
  · exact h u hu
theorem Mem.next {l : List (Nat × SM)} {w w' : World} (h : Mem l w) (x : SM) (hb : Below (w.alloc (smO x)).heap.size (w.alloc (smO x)) w') : Mem ((w.heap.size, x) :: l) w' := (h.add x).bel hb
theorem bel_next {W w w' : World} {O : Obj} (h : Below W.heap.size W w) (hb : Below (w.alloc O).heap.size (w.alloc O) w') : Below W.heap.size W w' := (h.alloc h.size O).trans (hb.mono (h.alloc h.size O).size)
theorem bel_trans' {W w w' : World} (h : Below W.heap.size W w) (hb : Below w.heap.size w w') : Below W.heap.size W w' := h.trans (hb.mono h.size)
theorem eqSm (a b c d e : Int) (w : World) : (Op.equalIn 10000 24 (.agg #[.int .i64 a, .int .i64 b, .int .i64 c, .int .i64 d, .int .i64 e]) (.agg #[.int .i64 a, .int .i64 b, .int .i64 c, .int .i64 d, .int .i64 e])).run Try.prog w = .ok true w := by
  have u3 := Try.underlying3
  have a3 := Try.isAgg3
  have z3 := Try.sizeOf3
  have hS : Try.prog.underlying 24 = some (.struct (Try.prog.fieldsOf 24)) := by kernel_rfl
  have hp : Try.prog.stoodInHeld 24 = false := by kernel_rfl
  rw [show (10000 : Nat) = 9999 + 1 from rfl, run_equalIn_agg w 9999 24 _ _ hS hp]
  simp only [Program.fieldsOf, Try.underlying24]
  go_simp
theorem behF_ok {a b : SM} (ha : a.ok) (hb : b.ok) : behF a b = (beh a b, 0) := by unfold behF; rw [smOK_yes ha, smOK_yes hb]; rfl
theorem eithF_ok {a b : SM} (ha : a.ok) (hb : b.ok) : eithF a b = (eith a b, 0) := by unfold eithF; rw [smOK_yes ha, smOK_yes hb]; rfl
theorem timsF_ok {a : SM} (ha : a.ok) {m : Nat} (h : m ≤ 20) : timsF a m = (tims a m, 0) := by
  unfold timsF
  rw [smOK_yes ha, if_pos rfl, if_pos ⟨by omega, by omega⟩]
  rfl
theorem beh_imp {a b : SM} (ha : a.ok) (hb : b.ok) {r : SM} (hr : beh a b = r) (w : World) : Calls Try.prog 11 #[smV a, smV b] w fun e w' => e = .returned (smR (r, 0)) ∧ Below w.heap.size w w' := by
  have := Behind_any a b w
  rwa [behF_ok ha hb, hr] at this
theorem beh_spc {a b : SM} (ha : a.ok) (hb : b.ok) {r : SM} (hr : beh a b = r) (w : World) : Calls Try.prog 12 #[smV a, smV b] w fun e w' => e = .returned (smR (r, 0)) ∧ Below w.heap.size w w' := by
  have := specBehind_any a b w
  rwa [behF_ok ha hb, hr] at this
theorem eith_imp {a b : SM} (ha : a.ok) (hb : b.ok) {r : SM} (hr : eith a b = r) (w : World) : Calls Try.prog 16 #[smV a, smV b] w fun e w' => e = .returned (smR (r, 0)) ∧ Below w.heap.size w w' := by
  have := Either_any a b w
  rwa [eithF_ok ha hb, hr] at this
theorem eith_spc {a b : SM} (ha : a.ok) (hb : b.ok) {r : SM} (hr : eith a b = r) (w : World) : Calls Try.prog 17 #[smV a, smV b] w fun e w' => e = .returned (smR (r, 0)) ∧ Below w.heap.size w w' := by
  have := specEither_any a b w
  rwa [eithF_ok ha hb, hr] at this
theorem tims_imp {a : SM} (ha : a.ok) {m : Nat} (h : m ≤ 20) {n : Int} (hn : n = m) {r : SM} (hr : tims a m = r) (w : World) : Calls Try.prog 15 #[smV a, .int .i64 n] w fun e w' => e = .returned (smR (r, 0)) ∧ Below w.heap.size w w' := by
  have := Times_any a m w
  rw [timsF_ok ha h, hr] at this
  rw [hn]
  exact this
theorem ok_imp {a : SM} (ha : a.ok) (w : World) : Calls Try.prog 18 #[smV a] w fun e w' => e = .returned (.bool true) ∧ Below w.heap.size w w' := by
  have := summaryOK_any a w
  rwa [smOK_yes ha] at this
theorem one_imp (w : World) : Calls Try.prog 13 #[.int .i64 0, .bool false] w fun e w' => e = .returned (smR (one 0 false, 0)) ∧ Below w.heap.size w w' := OneCost_any 0 false w
/-- The row of bytes with one ahead. -/
theorem bytes_row {w : World} {B n : Nat} {v : Value} {e : TypeId} {xs : List Value} (h : w.ownsRow B e 1 v (1 + n) xs) (hn : 1 + n ≤ maxLen) (hx : ∀ u ∈ xs, ∃ z : Int, 0 ≤ z ∧ z ≤ 255 ∧ u = .int .u8 z) : ∃ a c, v = .slice a (1 + n) c ∧ Bytes0 w w.heap.size a (1 + n) := by
  have hl : xs.length = 1 + n := by have := h.1; omega
  rcases h.2 with ⟨_, h0⟩ | ⟨g, cap, cur, rfl, _⟩
  · omega
  · refine ⟨_, _, rfl, hn, fun _ => ⟨⟨g, 0, none⟩, rfl, (h.lt g rfl).2, fun i hi => ?_⟩⟩
    have hm : xs[i]? = some xs[i] := List.getElem?_eq_getElem (by omega)
    obtain ⟨z, z0, z1, hz⟩ := hx xs[i] (List.getElem_mem _)
    refine ⟨z, z0, z1, ?_⟩
    have := h.cells (g := g) rfl i xs[i] hm
    rw [hz] at this
    cases i <;> simpa [Addr.add] using this
/-- The cells of the bytes that came in. -/
theorem bytes_list {w : World} {B n : Nat} {x : Addr} (hc : ∀ i, i < n → ∃ z : Int, 0 ≤ z ∧ z ≤ 255 ∧ w.cell? (x.add i) = some (.int .u8 z)) :
    ∃ xs : List Value, xs.length = n ∧ (∀ j u, xs[j]? = some u → w.cell? (x.add j) = some u) ∧ ∀ u ∈ xs, ∃ z : Int, 0 ≤ z ∧ z ≤ 255 ∧ u = .int .u8 z := by
  induction n with
  | zero => exact ⟨[], rfl, by simp, by simp⟩
  | succ n ih =>
    obtain ⟨xs, hl, h1, h2⟩ := ih fun i hi => hc i (by omega)
    obtain ⟨z, z0, z1, hz⟩ := hc n (by omega)
    refine ⟨xs ++ [Value.int .u8 z], by simp [hl], fun j u hj => ?_, fun u hu => ?_⟩
    · by_cases e : j < n
      · exact h1 j u (by rwa [List.getElem?_append_left (by omega)] at hj)
      · have hlt : j < (xs ++ [Value.int .u8 z]).length := (List.getElem?_eq_some_iff.1 hj).1
        simp only [List.length_append, List.length_singleton] at hlt
        obtain rfl : j = n := by omega
        rw [List.getElem?_append_right (by omega), hl] at hj
        simp at hj
        rw [← hj]
        exact hz
    · rcases List.mem_append.1 hu with hu | hu
      · exact h2 u hu
      · rw [List.mem_singleton.1 hu]
        exact ⟨z, z0, z1, rfl⟩
set_option maxRecDepth 100000 in
set_option maxHeartbeats 4000000 in
theorem FnSummaries_came (a : Option Addr) (n c : Nat) (a1 : Option Addr) (n1 c1 : Nat) (W : World) (h0 : Came Try.prog W 22 [.slice a n c]) (h1 : Came Try.prog W 22 [.slice a1 n1 c1]) :
    Calls Try.prog 3 #[.slice a n c, .slice a1 n1 c1] W fun e w' => e = .returned (.bool true) ∧ Below W.heap.size W w' := by
  have B0 := Lib.hid (sm_bytes h0).1
  have N0 := Lib.hid (sm_bytes h0).2
  have B1 := Lib.hid (sm_bytes h1).1
  have hn := B0.out.1
  have hn1 := B1.out.1
  unfold maxLen at hn hn1
  clear h0 h1
  by_cases l0 : 1048576 < n
  · go_enter Try.func3, Try.ntmps3
    go_wp2
    go_ret
    exact ⟨rfl, Below.refl _ _⟩
  by_cases l1 : 1048576 < n1
  · go_enter Try.func3, Try.ntmps3
    go_wp2
    go_ret
    exact ⟨rfl, Below.refl _ _⟩
  obtain ⟨i0, hi, hz0, hz1, hz2⟩ := info_parts (show (Try.prog.info? 5).map (fun i => (i.zero, i.size, i.bytes)) = some (some (.int .u8 0), 1, 1) by kernel_rfl)
  have HI := Lib.hid (And.intro hi (And.intro hz0 (And.intro hz1 hz2)))
  have HE := eqSm
  clear hi hz0 hz1 hz2
  go_enter Try.func3, Try.ntmps3
  go_wp2_with fail
  refine (summaryDrawn_any a n c W B0.out).mono ?_
  rintro e w1 ⟨x, rfl, xok, hb⟩
  have XO := Lib.hid xok
  have M1 : Hid (Mem [] w1) := Lib.hid (fun q hq => by simp at hq)
  have K1 := Lib.hid hb
  clear xok hb
  go_wp2_with fail
  refine (summaryDrawn_any a1 n1 c1 _ (B1.out.belS (K1.out.alloc K1.out.size (smO x)) (K1.out.alloc K1.out.size (smO x)).size)).mono ?_
  rintro e w2 ⟨y, rfl, yok, hb⟩
  have YO := Lib.hid yok
  have M2 := Lib.hid (M1.out.next x hb)
  have K2 := Lib.hid (bel_next K1.out hb)
  clear yok hb
  go_upto_region 5 with (fail)
  go_cut [7] (fun s7 wx => ∃ (z : SM) (w3 : World), s7 = .pointer (some ⟨w3.heap.size, 0, none⟩) ∧ wx = w3.alloc (smO z) ∧ Hid z.ok ∧ Hid (Mem [(w2.heap.size, y), (w1.heap.size, x)] w3) ∧ Hid (Below W.heap.size W w3))
  case first =>
    have ho2 := World.ownsRow_lit (base := w2.heap.size) (e := 5) (size := 1) (w2.alloc (smO y)) #[.int .u8 7] 1 (by simp) (by unfold maxLen; omega) rfl
    rw [show (w2.alloc (smO y)).heap.size = w2.heap.size + 1 by simp] at ho2
    have HO2 : Hid (((w2.alloc (smO y)).alloc (.cells #[.int .u8 7] 5)).ownsRow w2.heap.size 5 1 (.slice (some ⟨w2.heap.size + 1, 0, none⟩) 1 1) 1 [.int .u8 7]) := Lib.hid ho2
    clear ho2
    have KA := Lib.hid ((K2.out.alloc K2.out.size (smO y)).alloc (by have := K2.out.size; simp; omega) (.cells #[.int .u8 7] 5))
    have MA := Lib.hid ((M2.out.add y).bel (sm_al _ (.cells #[.int .u8 7] 5)))
    have hsz : w2.heap.size ≤ ((w2.alloc (smO y)).alloc (.cells #[.int .u8 7] 5)).heap.size := by simp; omega
    rcases a with _ | ad
    · obtain ⟨rfl, rfl⟩ := N0.out rfl
      have HB := Lib.hid (bytes_row (n := 0) HO2.out (by unfold maxLen; omega) (by intro u hu; simp at hu; exact ⟨7, by omega, by omega, hu⟩))
      obtain ⟨a', c', e', hb'⟩ := HB.out
      simp only [Value.slice.injEq] at e'
      obtain ⟨rfl, -, rfl⟩ := e'
      have HB' := Lib.hid hb'
      clear HB hb'
      go_wp2_with fail
      refine Calls.mono (summaryDrawn_any _ _ _ _ HB'.out) ?_
      rintro e w3 ⟨z, rfl, zok, hb⟩
      have KZ := Lib.hid (bel_trans' KA.out hb)
      have MZ := Lib.hid (MA.out.bel hb)
      have ZO := Lib.hid zok
      clear zok hb
      go_wp2_with fail
      go_meet
      exact ⟨z, w3, rfl, rfl, ZO, MZ, KZ⟩
    · have HX : Hid (∃ xs : List Value, xs.length = n ∧ (∀ j u, xs[j]? = some u → W.cell? (ad.add j) = some u) ∧ (∀ u ∈ xs, ∃ z : Int, 0 ≤ z ∧ z ≤ 255 ∧ u = .int .u8 z) ∧ (0 < n → ad.block < W.heap.size)) := Lib.hid (by
        rcases Nat.eq_zero_or_pos n with h | h
        · exact ⟨[], h.symm, by simp, by simp, by omega⟩
        · obtain ⟨x, e, hx, hc⟩ := B0.out.2 h
          cases e
          obtain ⟨xs, h1, h2, h3⟩ := bytes_list (B := 0) hc
          exact ⟨xs, h1, h2, h3, fun _ => hx⟩)
      obtain ⟨xs, hx1, hx2, hx3, hx4⟩ := HX.out
      have HX1 := Lib.hid hx1
      have HX2 : Hid (∀ j u, xs[j]? = some u → ((w2.alloc (smO y)).alloc (.cells #[.int .u8 7] 5)).cell? (ad.add j) = some u) := Lib.hid (fun j u hj => (KA.out.cell (by rw [add_block]; have := (List.getElem?_eq_some_iff.1 hj).1; exact hx4 (by omega))).trans (hx2 j u hj))
      have HX3 := Lib.hid hx3
      clear HX hx1 hx2 hx3 hx4
      go_wp2_with (at_builtin; (refine wpList_append_own _ rfl _ _ 22 rfl w2.heap.size 5 i0 (.int .u8 0) 1 1 Try.underlying22 HI.out.1 HI.out.2.1 HI.out.2.2.1 HI.out.2.2.2 rfl (by decide) _ 1 [.int .u8 7] rfl HO2.out ad n c xs rfl (by rw [HX1.out]; omega) HX2.out (fun u hu => by obtain ⟨z, _, _, rfl⟩ := HX3.out u hu; rfl) (by unfold maxLen; omega) (by omega) hsz ?_); intro v' w3 hown hgrow _)
      have HB := Lib.hid (bytes_row hown (by unfold maxLen; omega) (row7 HX3.out))
      obtain ⟨a', c', rfl, hb'⟩ := HB.out
      have HB' := Lib.hid hb'
      have hg : ((w2.alloc (smO y)).alloc (.cells #[.int .u8 7] 5)).grownBy w3 (some (w2.heap.size + 1)) := hgrow
      have KB := Lib.hid (KA.out.grown hg KA.out.size (fun k hk => by cases hk; have := K2.out.size; omega))
      have MB := Lib.hid ((M2.out.add y).grownS (sm_al _ _) hg (by simp))
      clear HB hb' hg hgrow hown
      go_wp2_with fail
      refine Calls.mono (summaryDrawn_any _ _ _ _ HB'.out) ?_
      rintro e w4 ⟨z, rfl, zok, hb⟩
      have KZ := Lib.hid (bel_trans' KB.out hb)
      have MZ := Lib.hid (MB.out.bel hb)
      have ZO := Lib.hid zok
      clear zok hb
      go_wp2_with fail
      go_meet
      exact ⟨z, w4, rfl, rfl, ZO, MZ, KZ⟩
  case rest =>
    obtain ⟨z, w3, rfl, rfl, ZO, M3, K3⟩ := hcut
    clear M1 M2 K1 K2 B0 N0
    obtain ⟨AB, hAB⟩ : ∃ r, beh x y = r := ⟨_, rfl⟩
    obtain ⟨LL, hLL⟩ : ∃ r, beh AB z = r := ⟨_, rfl⟩
    obtain ⟨BC, hBC⟩ : ∃ r, beh y z = r := ⟨_, rfl⟩
    obtain ⟨OO, hOO⟩ : ∃ r, eith x y = r := ⟨_, rfl⟩
    obtain ⟨Z0, hZ0⟩ : ∃ r, one 0 false = r := ⟨_, rfl⟩
    have okAB : AB.ok := hAB ▸ beh_ok XO.out YO.out
    have okLL : LL.ok := hLL ▸ beh_ok okAB ZO.out
    have okBC : BC.ok := hBC ▸ beh_ok YO.out ZO.out
    have okOO : OO.ok := hOO ▸ eith_ok XO.out YO.out
    have okZ0 : Z0.ok := hZ0 ▸ one_ok (by omega) false
    have hR : beh x BC = LL := by rw [← hBC, ← beh_assoc XO.out YO.out ZO.out, hAB, hLL]
    have C4 := Lib.hid (fun w => beh_imp XO.out YO.out hAB w)
    have C5 := Lib.hid (fun w => beh_imp okAB ZO.out hLL w)
    have C6 := Lib.hid (fun w => beh_imp YO.out ZO.out hBC w)
    have C7 := Lib.hid (fun w => beh_imp XO.out okBC hR w)
    have C8 := Lib.hid (fun w => beh_spc XO.out YO.out hAB w)
    have C9 := Lib.hid (fun w => one_imp w)
    rw [hZ0] at C9
    have C10 := Lib.hid (fun w => beh_imp okZ0 XO.out (show beh Z0 x = x by rw [← hZ0]; exact none_beh XO.out) w)
    have C11 := Lib.hid (fun w => beh_imp XO.out okZ0 (show beh x Z0 = x by rw [← hZ0]; exact beh_none XO.out) w)
    have C15 := Lib.hid (fun w => eith_imp XO.out YO.out hOO w)
    have C16 := Lib.hid (fun w => eith_imp YO.out XO.out ((eith_comm y x).trans hOO) w)
    have C17 := Lib.hid (fun w => eith_spc XO.out YO.out hOO w)
    have C18 := Lib.hid (fun w => ok_imp okLL w)
    have C19 := Lib.hid (fun w => ok_imp okOO w)
    clear hAB hLL hBC hOO hZ0 okAB okLL okBC okOO okZ0 hR
    obtain ⟨⟨c00, c01, c02, c03, c04⟩, -, hz0⟩ := sm_cells (M3.out (w1.heap.size, x) (by simp))
    obtain ⟨⟨c10, c11, c12, c13, c14⟩, -, hz1⟩ := sm_cells (M3.out (w2.heap.size, y) (by simp))
    go_wp2_with fail
    refine Calls.mono (C4.out _) ?_
    rintro e w4 ⟨rfl, hb⟩
    have M4 := Lib.hid (M3.out.next z hb)
    have K4 := Lib.hid (bel_next K3.out hb)
    clear hb M3 K3 c00 c01 c02 c03 c04 hz0 c10 c11 c12 c13 c14 hz1
    obtain ⟨⟨c10, c11, c12, c13, c14⟩, -, hz1⟩ := sm_cells (M4.out (w3.heap.size, z) (by simp))
    go_wp2_with fail
    refine Calls.mono (C5.out _) ?_
    rintro e w5 ⟨rfl, hb⟩
    have M5 := Lib.hid (M4.out.next AB hb)
    have K5 := Lib.hid (bel_next K4.out hb)
    clear hb M4 K4 c10 c11 c12 c13 c14 hz1
    obtain ⟨⟨c00, c01, c02, c03, c04⟩, -, hz0⟩ := sm_cells (M5.out (w2.heap.size, y) (by simp))
    obtain ⟨⟨c10, c11, c12, c13, c14⟩, -, hz1⟩ := sm_cells (M5.out (w3.heap.size, z) (by simp))
    go_wp2_with fail
    refine Calls.mono (C6.out _) ?_
    rintro e w6 ⟨rfl, hb⟩
    have M6 := Lib.hid (M5.out.next LL hb)
    have K6 := Lib.hid (bel_next K5.out hb)
    clear hb M5 K5 c00 c01 c02 c03 c04 hz0 c10 c11 c12 c13 c14 hz1
    obtain ⟨⟨c00, c01, c02, c03, c04⟩, -, hz0⟩ := sm_cells (M6.out (w1.heap.size, x) (by simp))
    go_wp2_with fail
    refine Calls.mono (C7.out _) ?_
    rintro e w7 ⟨rfl, hb⟩
    have M7 := Lib.hid (M6.out.next BC hb)
    have K7 := Lib.hid (bel_next K6.out hb)
    clear hb M6 K6 c00 c01 c02 c03 c04 hz0
    obtain ⟨⟨c00, c01, c02, c03, c04⟩, -, hz0⟩ := sm_cells (M7.out (w1.heap.size, x) (by simp))
    obtain ⟨⟨c10, c11, c12, c13, c14⟩, -, hz1⟩ := sm_cells (M7.out (w2.heap.size, y) (by simp))
    go_wp2_with fail
    refine Calls.mono (C8.out _) ?_
    rintro e w8 ⟨rfl, hb⟩
    have M8 := Lib.hid (M7.out.next LL hb)
    have K8 := Lib.hid (bel_next K7.out hb)
    clear hb M7 K7 c00 c01 c02 c03 c04 hz0 c10 c11 c12 c13 c14 hz1
    go_wp2_with fail
    refine Calls.mono (C9.out _) ?_
    rintro e w9 ⟨rfl, hb⟩
    have M9 := Lib.hid (M8.out.next AB hb)
    have K9 := Lib.hid (bel_next K8.out hb)
    clear hb M8 K8 
    obtain ⟨⟨c10, c11, c12, c13, c14⟩, -, hz1⟩ := sm_cells (M9.out (w1.heap.size, x) (by simp))
    go_wp2_with fail
    refine Calls.mono (C10.out _) ?_
    rintro e w10 ⟨rfl, hb⟩
    have M10 := Lib.hid (M9.out.next Z0 hb)
    have K10 := Lib.hid (bel_next K9.out hb)
    clear hb M9 K9 c10 c11 c12 c13 c14 hz1
    obtain ⟨⟨c00, c01, c02, c03, c04⟩, -, hz0⟩ := sm_cells (M10.out (w1.heap.size, x) (by simp))
    obtain ⟨⟨c10, c11, c12, c13, c14⟩, -, hz1⟩ := sm_cells (M10.out (w9.heap.size, Z0) (by simp))
    go_wp2_with fail
    refine Calls.mono (C11.out _) ?_
    rintro e w11 ⟨rfl, hb⟩
    have M11 := Lib.hid (M10.out.next x hb)
    have K11 := Lib.hid (bel_next K10.out hb)
    clear hb M10 K10 c00 c01 c02 c03 c04 hz0 c10 c11 c12 c13 c14 hz1
    go_wp2_with fail
    refine (at_any a1 n1 c1 _ (B1.out.belS (K11.out.alloc K11.out.size (smO x)) (K11.out.alloc K11.out.size (smO x)).size) (by omega) 0 8 ⟨by omega, by omega⟩ ⟨by omega, by omega⟩).mono ?_
    rintro e w' ⟨v, rfl, v0, v1, q, rfl⟩
    have M12' : Mem _ ((w11.alloc (smO x)).drewN q) := M11.out.add x
    have K12' : Below W.heap.size W ((w11.alloc (smO x)).drewN q) := bel_dn1 (K11.out.alloc K11.out.size (smO x)) q
    have M12 := Lib.hid M12'
    have K12 := Lib.hid K12'
    clear M11 K11 M12' K12'
    generalize (w11.alloc (smO x)).drewN q = w12 at *
    obtain ⟨m, rfl⟩ := Int.eq_ofNat_of_zero_le v0
    obtain ⟨TT, hTT⟩ : ∃ r, tims x m = r := ⟨_, rfl⟩
    obtain ⟨NN, hNN⟩ : ∃ r, beh TT x = r := ⟨_, rfl⟩
    have okTT : TT.ok := hTT ▸ tims_ok XO.out m
    have C12 := Lib.hid (fun w => tims_imp XO.out (m := m) (by omega) (n := (m : Int)) rfl hTT w)
    have C13 := Lib.hid (fun w => tims_imp XO.out (m := m + 1) (by omega) (n := (m : Int) + 1) (by omega) (r := NN) (by rw [tims, hTT, hNN]) w)
    have C14 := Lib.hid (fun w => beh_imp okTT XO.out hNN w)
    have C20 := Lib.hid (fun w => ok_imp okTT w)
    clear hTT hNN okTT
    obtain ⟨⟨c00, c01, c02, c03, c04⟩, -, hz0⟩ := sm_cells (M12.out (w1.heap.size, x) (by simp))
    go_wp2_with fail
    refine Calls.mono (C12.out _) ?_
    rintro e w13 ⟨rfl, hb⟩
    have M13 := Lib.hid (M12.out.bel hb)
    have K13 := Lib.hid (bel_trans' K12.out hb)
    clear hb M12 K12 c00 c01 c02 c03 c04 hz0
    obtain ⟨⟨c00, c01, c02, c03, c04⟩, -, hz0⟩ := sm_cells (M13.out (w1.heap.size, x) (by simp))
    go_wp2_with fail
    refine Calls.mono (C13.out _) ?_
    rintro e w14 ⟨rfl, hb⟩
    have M14 := Lib.hid (M13.out.next TT hb)
    have K14 := Lib.hid (bel_next K13.out hb)
    clear hb M13 K13 c00 c01 c02 c03 c04 hz0
    obtain ⟨⟨c00, c01, c02, c03, c04⟩, -, hz0⟩ := sm_cells (M14.out (w13.heap.size, TT) (by simp))
    obtain ⟨⟨c10, c11, c12, c13, c14⟩, -, hz1⟩ := sm_cells (M14.out (w1.heap.size, x) (by simp))
    go_wp2_with fail
    refine Calls.mono (C14.out _) ?_
    rintro e w15 ⟨rfl, hb⟩
    have M15 := Lib.hid (M14.out.next NN hb)
    have K15 := Lib.hid (bel_next K14.out hb)
    clear hb M14 K14 c00 c01 c02 c03 c04 hz0 c10 c11 c12 c13 c14 hz1
    obtain ⟨⟨c00, c01, c02, c03, c04⟩, -, hz0⟩ := sm_cells (M15.out (w1.heap.size, x) (by simp))
    obtain ⟨⟨c10, c11, c12, c13, c14⟩, -, hz1⟩ := sm_cells (M15.out (w2.heap.size, y) (by simp))
    go_wp2_with fail
    refine Calls.mono (C15.out _) ?_
    rintro e w16 ⟨rfl, hb⟩
    have M16 := Lib.hid (M15.out.next NN hb)
    have K16 := Lib.hid (bel_next K15.out hb)
    clear hb M15 K15 c00 c01 c02 c03 c04 hz0 c10 c11 c12 c13 c14 hz1
    obtain ⟨⟨c00, c01, c02, c03, c04⟩, -, hz0⟩ := sm_cells (M16.out (w2.heap.size, y) (by simp))
    obtain ⟨⟨c10, c11, c12, c13, c14⟩, -, hz1⟩ := sm_cells (M16.out (w1.heap.size, x) (by simp))
    go_wp2_with fail
    refine Calls.mono (C16.out _) ?_
    rintro e w17 ⟨rfl, hb⟩
    have M17 := Lib.hid (M16.out.next OO hb)
    have K17 := Lib.hid (bel_next K16.out hb)
    clear hb M16 K16 c00 c01 c02 c03 c04 hz0 c10 c11 c12 c13 c14 hz1
    obtain ⟨⟨c00, c01, c02, c03, c04⟩, -, hz0⟩ := sm_cells (M17.out (w1.heap.size, x) (by simp))
    obtain ⟨⟨c10, c11, c12, c13, c14⟩, -, hz1⟩ := sm_cells (M17.out (w2.heap.size, y) (by simp))
    go_wp2_with fail
    refine Calls.mono (C17.out _) ?_
    rintro e w18 ⟨rfl, hb⟩
    have M18 := Lib.hid (M17.out.next OO hb)
    have K18 := Lib.hid (bel_next K17.out hb)
    clear hb M17 K17 c00 c01 c02 c03 c04 hz0 c10 c11 c12 c13 c14 hz1
    obtain ⟨⟨c00, c01, c02, c03, c04⟩, -, hz0⟩ := sm_cells (M18.out (w4.heap.size, AB) (by simp))
    obtain ⟨⟨c10, c11, c12, c13, c14⟩, -, hz1⟩ := sm_cells (M18.out (w8.heap.size, AB) (by simp))
    obtain ⟨⟨c20, c21, c22, c23, c24⟩, -, hz2⟩ := sm_cells (M18.out (w5.heap.size, LL) (by simp))
    obtain ⟨⟨c30, c31, c32, c33, c34⟩, -, hz3⟩ := sm_cells (M18.out (w7.heap.size, LL) (by simp))
    obtain ⟨⟨c40, c41, c42, c43, c44⟩, -, hz4⟩ := sm_cells (M18.out (w10.heap.size, x) (by simp))
    obtain ⟨⟨c50, c51, c52, c53, c54⟩, -, hz5⟩ := sm_cells (M18.out (w1.heap.size, x) (by simp))
    obtain ⟨⟨c60, c61, c62, c63, c64⟩, -, hz6⟩ := sm_cells (M18.out (w11.heap.size, x) (by simp))
    obtain ⟨⟨c70, c71, c72, c73, c74⟩, -, hz7⟩ := sm_cells (M18.out (w15.heap.size, NN) (by simp))
    obtain ⟨⟨c80, c81, c82, c83, c84⟩, -, hz8⟩ := sm_cells (M18.out (w14.heap.size, NN) (by simp))
    obtain ⟨⟨c90, c91, c92, c93, c94⟩, -, hz9⟩ := sm_cells (M18.out (w16.heap.size, OO) (by simp))
    obtain ⟨⟨c100, c101, c102, c103, c104⟩, -, hz10⟩ := sm_cells (M18.out (w17.heap.size, OO) (by simp))
    go_wp2_with fail
    refine Calls.mono (C18.out _) ?_
    rintro e w19 ⟨rfl, hb⟩
    have M19 := Lib.hid (M18.out.next OO hb)
    have K19 := Lib.hid (bel_next K18.out hb)
    clear hb M18 K18 c00 c01 c02 c03 c04 hz0 c10 c11 c12 c13 c14 hz1 c20 c21 c22 c23 c24 hz2 c30 c31 c32 c33 c34 hz3 c40 c41 c42 c43 c44 hz4 c50 c51 c52 c53 c54 hz5 c60 c61 c62 c63 c64 hz6 c70 c71 c72 c73 c74 hz7 c80 c81 c82 c83 c84 hz8 c90 c91 c92 c93 c94 hz9 c100 c101 c102 c103 c104 hz10
    obtain ⟨⟨c00, c01, c02, c03, c04⟩, -, hz0⟩ := sm_cells (M19.out (w16.heap.size, OO) (by simp))
    go_wp2_with fail
    refine Calls.mono (C19.out _) ?_
    rintro e w20 ⟨rfl, hb⟩
    have M20 := Lib.hid (M19.out.bel hb)
    have K20 := Lib.hid (bel_trans' K19.out hb)
    clear hb M19 K19 c00 c01 c02 c03 c04 hz0
    obtain ⟨⟨c00, c01, c02, c03, c04⟩, -, hz0⟩ := sm_cells (M20.out (w13.heap.size, TT) (by simp))
    go_wp2_with fail
    refine Calls.mono (C20.out _) ?_
    rintro e w21 ⟨rfl, hb⟩
    have M21 := Lib.hid (M20.out.bel hb)
    have K21 := Lib.hid (bel_trans' K20.out hb)
    clear hb M20 K20 c00 c01 c02 c03 c04 hz0
    go_wp2
    go_ret
    exact ⟨rfl, K21.out⟩
end Go.Proofs.Ythlbcjjfnmnpiaa
