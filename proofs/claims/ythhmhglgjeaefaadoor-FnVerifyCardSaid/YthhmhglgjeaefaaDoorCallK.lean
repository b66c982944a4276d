/- Marks of integers, and the routines that code calls, as spec finds them. -/
import Derived.Test.YthhmhglgjeaefaaDoorCallI
import Derived.Test.YthhmhglgjeaefaaDoorRdCode
namespace Go.Proofs.YthhmhglgjeaefaaDoor
open Go.ChangeShapes Go.WideShapes Go.ChangeAt Go.RowKit
set_option linter.unusedVariables false
/-- Whether n is called among the first i. -/
def hasN (zs : List Ins) (n i : Nat) : Bool := (zs.take i).any (fun x => decide (x.1 = 26 ∧ x.2 = (n : Int)))
def vcI (zs : List Ins) (n i : Nat) : List Int := if hasN zs n i = true then vcN zs n ++ [(n : Int)] else vcN zs n
theorem vcI_zero (zs : List Ins) (n : Nat) : vcI zs n 0 = vcN zs n := by simp [vcI, hasN]
theorem vcI_all (zs : List Ins) (n : Nat) : vcI zs n zs.length = vcN zs (n + 1) := by
  unfold vcI hasN vcN
  rw [List.take_length, List.range_succ, List.filter_append, List.map_append]
  by_cases h : zs.any (fun x => decide (x.1 = 26 ∧ x.2 = (n : Int))) = true
  · rw [if_pos h]; simp only [List.filter_cons, List.filter_nil, h]; rfl
  · rw [if_neg h]; simp only [List.filter_cons, List.filter_nil, h]; simp
theorem hasN_succ {zs : List Ins} {n i : Nat} (h : i < zs.length) : hasN zs n (i + 1) = (hasN zs n i || decide ((zs.getD i (0, 0)).1 = 26 ∧ (zs.getD i (0, 0)).2 = (n : Int))) := by
  have e : zs.getD i (0, 0) = zs[i] := by simp [List.getD, h]
  unfold hasN
  rw [List.take_succ_eq_append_getElem h, List.any_append, e]
  simp
theorem vcI_skip {zs : List Ins} {n i : Nat} (h : i < zs.length) (g : hasN zs n i = true ∨ ¬ ((zs.getD i (0, 0)).1 = 26 ∧ (zs.getD i (0, 0)).2 = (n : Int))) : vcI zs n (i + 1) = vcI zs n i := by
  unfold vcI
  rw [hasN_succ h]
  rcases g with g | g
  · rw [g]; rfl
  · rw [decide_eq_false g, Bool.or_false]
theorem vcI_add {zs : List Ins} {n i : Nat} (h : i < zs.length) (g : hasN zs n i = false) (g2 : (zs.getD i (0, 0)).1 = 26 ∧ (zs.getD i (0, 0)).2 = (n : Int)) : vcI zs n (i + 1) = vcI zs n i ++ [(n : Int)] := by
  unfold vcI
  rw [hasN_succ h, g, decide_eq_true g2]
  rfl
theorem vcN_lt (zs : List Ins) (n : Nat) : ∀ v ∈ vcN zs n, v < (n : Int) := by
  intro v hv
  unfold vcN at hv
  simp only [List.mem_map, List.mem_filter, List.mem_range] at hv
  obtain ⟨q, ⟨h, _⟩, rfl⟩ := hv
  omega
theorem vcN_len (zs : List Ins) (n : Nat) : (vcN zs n).length ≤ n := by
  unfold vcN
  rw [List.length_map]
  have := List.length_filter_le (fun q : Nat => zs.any (fun x => decide (x.1 = 26 ∧ x.2 = (q : Int)))) (List.range n)
  simpa using this
theorem vcI_len (zs : List Ins) (n i : Nat) : (vcI zs n i).length ≤ n + 1 := by
  have := vcN_len zs n
  unfold vcI
  split
  · simp; omega
  · omega
/-- The last of those met: n itself if it was called, a smaller one if not. -/
theorem vcI_last {zs : List Ins} {n i : Nat} (h : 0 < (vcI zs n i).length) : ∃ z : Int, (vcI zs n i)[(vcI zs n i).length - 1]? = some z ∧ (hasN zs n i = true → z = n) ∧ (hasN zs n i = false → z < n) := by
  cases hb : hasN zs n i
  · have e : vcI zs n i = vcN zs n := by unfold vcI; rw [hb]; rfl
    rw [e] at h ⊢
    refine ⟨(vcN zs n)[(vcN zs n).length - 1]'(by omega), by simp, by simp, fun _ => ?_⟩
    exact vcN_lt zs n _ (List.getElem_mem _)
  · have e : vcI zs n i = vcN zs n ++ [(n : Int)] := by unfold vcI; rw [if_pos hb]
    rw [e]
    exact ⟨n, by simp, fun _ => rfl, by simp⟩
theorem vcI_pos {zs : List Ins} {n i : Nat} (h : hasN zs n i = true) : 0 < (vcI zs n i).length := by
  unfold vcI
  rw [if_pos h]
  simp
end Go.Proofs.YthhmhglgjeaefaaDoor
namespace Go.Proofs.YthhmhglgjeaefaaDoor
open Go.ChangeShapes Go.WideShapes Go.ChangeAt Go.RowKit
set_option linter.unusedVariables false
theorem callsPost_lit {w w1 : World} {d : Int} (hb : Below w.heap.size w w1) : CallsPost [] d w (.returned (.tuple #[.slice (some ⟨w1.heap.size, 0, none⟩) 0 0, .int .i64 d])) (w1.alloc (.cells #[] 3)) :=
  ⟨_, _, rfl, World.ownsRow_lit w1 #[] 0 hb.size (Nat.zero_le _) rfl, hb.alloc hb.size _⟩
/-- The last of a row of integers. -/
theorem kC_lastAt {B m q : Nat} {x : Option Addr} {l : List Int} {wr : World} (ho : wr.ownsRow B 3 1 (.slice x m q) m (kC l)) (hl : l.length = m) (hm : 0 < m) {z : Int} (hz : l[m - 1]? = some z) :
    ∃ b o : Nat, x = some ⟨b, o, none⟩ ∧ wr.cell? ⟨b, o + (m - 1), none⟩ = some (.int .i64 z) := by
  obtain ⟨b, o, rfl, _, hcs⟩ := (lies_own ho).open (by rw [kC_len, hl]; exact hm)
  refine ⟨b, o, rfl, hcs (m - 1) _ ?_⟩
  unfold kC
  rw [List.getElem?_map, hz]
  rfl
set_option maxRecDepth 100000 in
set_option maxHeartbeats 1000000 in
theorem specCallsOf_any (zs : List Ins) (a : Option Addr) (c : Nat) (hm : zs.length ≤ maxLen) (w : World) (hz : Lies w a (flat insC zs)) :
    Calls Tryd.prog 13 #[.slice a zs.length c] w (CallsPost (callsF zs).1 (callsF zs).2 w) := by
  unfold maxLen at hm
  by_cases h1 : 4096 < zs.length
  · have e : callsF zs = ([], 2) := if_pos h1
    have HP : Hid (CallsPost (callsF zs).1 (callsF zs).2 w (.returned (.tuple #[.slice (some ⟨w.heap.size, 0, none⟩) 0 0, .int .i64 2])) (w.alloc (.cells #[] 3))) := Lib.hid (by rw [e]; exact callsPost_lit (Below.refl _ _))
    clear e hz
    generalize CallsPost (callsF zs).1 (callsF zs).2 w = POST at *
    generalize zs.length = n at *
    go_enter Tryd.func13, Tryd.ntmps13
    go_wp2
    exact HP.out
  by_cases h2 : 40 < zs.length
  · have e : callsF zs = ([], 6) := (if_neg h1).trans (if_pos h2)
    have HP : Hid (CallsPost (callsF zs).1 (callsF zs).2 w (.returned (.tuple #[.slice (some ⟨w.heap.size, 0, none⟩) 0 0, .int .i64 6])) (w.alloc (.cells #[] 3))) := Lib.hid (by rw [e]; exact callsPost_lit (Below.refl _ _))
    clear e hz
    generalize CallsPost (callsF zs).1 (callsF zs).2 w = POST at *
    generalize zs.length = n at *
    go_enter Tryd.func13, Tryd.ntmps13
    go_wp2
    exact HP.out
  have HW := Lib.hid (l02All_any zs a c (by omega) w hz)
  cases hok : okAll zs
  · have e : callsF zs = ([], 1) := (if_neg h1).trans ((if_neg h2).trans (if_pos hok))
    have HP : Hid (∀ w1, Below w.heap.size w w1 → CallsPost (callsF zs).1 (callsF zs).2 w (.returned (.tuple #[.slice (some ⟨w1.heap.size, 0, none⟩) 0 0, .int .i64 1])) (w1.alloc (.cells #[] 3))) := Lib.hid (fun w1 hb => by rw [e]; exact callsPost_lit hb)
    rw [hok] at HW
    clear e hz hok
    generalize CallsPost (callsF zs).1 (callsF zs).2 w = POST at *
    generalize zs.length = n at *
    go_enter Tryd.func13, Tryd.ntmps13
    go_wp2_with (go_at_call 33; refine HW.out.mono ?_; rintro e w2 ⟨rfl, hb2⟩; have Hb2 := Lib.hid hb2; clear hb2)
    exact HP.out _ Hb2.out
  have e : callsF zs = (vCalls zs, 0) := (if_neg h1).trans ((if_neg h2).trans (if_neg (by rw [hok]; decide)))
  have HP : Hid (∀ (x : Option Addr) (m q : Nat) w', (vcN zs 6).length = m → w'.ownsRow w.heap.size 3 1 (.slice x m q) m (kC (vcN zs 6)) → Below w.heap.size w w' → CallsPost (callsF zs).1 (callsF zs).2 w (.returned (.tuple #[.slice x m q, .int .i64 0])) w') :=
    Lib.hid (fun x m q w' hm ho hb => by subst hm; rw [e]; exact ⟨x, q, rfl, ho, hb⟩)
  rw [hok] at HW
  have HZ := Lib.hid hz
  obtain ⟨i0, hi, hz0, hz1, hz2⟩ := info_parts (show (Tryd.prog.info? 3).map (fun i => (i.zero, i.size, i.bytes)) = some (some (.int .i64 0), 1, 8) by kernel_rfl)
  have HI := Lib.hid (And.intro hi (And.intro hz0 (And.intro hz1 hz2)))
  clear e hz hok hi hz0 hz1 hz2
  generalize CallsPost (callsF zs).1 (callsF zs).2 w = POST at *
  have HALL := Lib.hid (vcI_all zs)
  generalize hL : zs.length = n at *
  have HL := Lib.hid hL
  clear hL
  go_enter Tryd.func13, Tryd.ntmps13
  go_wp2_with (go_at_call 33; refine HW.out.mono ?_; rintro e w2 ⟨rfl, hb2⟩; have Hb2 := Lib.hid hb2; clear hb2)
  go_loopw [4, 5] (fun v i wr => ∃ (k m q : Nat) (x : Option Addr), k ≤ 6 ∧ m ≤ k ∧ i = .int .i64 k ∧ v = .slice x m q ∧ Hid ((vcN zs k).length = m) ∧ Hid (wr.ownsRow w.heap.size 3 1 (.slice x m q) m (kC (vcN zs k))) ∧ Hid (Below w.heap.size w wr)) (fun _ i _ => 6 - (intOf i).toNat)
  case atStart => exact ⟨0, 0, 0, some ⟨w2.heap.size, 0, none⟩, Nat.zero_le _, Nat.le_refl _, rfl, rfl, Lib.hid rfl, Lib.hid (World.ownsRow_lit w2 #[] 0 Hb2.out.size (Nat.zero_le _) rfl), Lib.hid (Hb2.out.alloc Hb2.out.size _)⟩
  case round =>
    obtain ⟨k, m, q, x, hk, hmk, rfl, rfl, hlen, ho, hb⟩ := hrel
    by_cases hlt : k < 6
    · go_wp2
      go_loopw [4, 6] (fun v i wr => ∃ (j m q : Nat) (x : Option Addr), j ≤ n ∧ m ≤ k + 1 ∧ i = .int .i64 j ∧ v = .slice x m q ∧ Hid ((vcI zs k j).length = m) ∧ Hid (wr.ownsRow w.heap.size 3 1 (.slice x m q) m (kC (vcI zs k j))) ∧ Hid (Below w.heap.size w wr)) (fun _ i _ => n - (intOf i).toNat)
      case atStart => exact ⟨0, m, q, x, Nat.zero_le _, by omega, rfl, rfl, Lib.hid (by rw [vcI_zero]; exact hlen.out), Lib.hid (by rw [vcI_zero]; exact ho.out), hb⟩
      case round =>
        obtain ⟨j, m, q, x, hj, hmj, rfl, rfl, hlen, ho, hb⟩ := hrel
        by_cases hlt2 : j < n
        · obtain ⟨b, o, rfl, hbl, hcs⟩ := HZ.out.open (by rw [flat_len insC_len, HL.out]; omega)
          obtain ⟨c0, c1⟩ := ins_at hcs (i := j) (by rw [HL.out]; exact hlt2)
          have d0 := (hb.out.cell (p := ⟨b, o + j * 2, none⟩) hbl).trans c0
          have d1 := (hb.out.cell (p := ⟨b, o + j * 2 + 1, none⟩) hbl).trans c1
          have HS := Lib.hid (fun g => vcI_skip (zs := zs) (n := k) (i := j) (by rw [HL.out]; exact hlt2) g)
          have HA := Lib.hid (fun g g2 => vcI_add (zs := zs) (n := k) (i := j) (by rw [HL.out]; exact hlt2) g g2)
          have HB := hb.out.size
          clear hcs c0 c1
          generalize (zs.getD j (0, 0)).1 = u at *
          generalize (zs.getD j (0, 0)).2 = v at *
          by_cases hyes : hasN zs k j = false ∧ u = 26 ∧ v = (k : Int)
          · obtain ⟨hno, rfl, rfl⟩ := hyes
            have hadd := Lib.hid (HA.out hno ⟨rfl, rfl⟩)
            obtain ⟨H1, H2, H3, H4⟩ := HI.out
            by_cases hm0 : m = 0
            · subst hm0
              go_wp2_with (at_builtin; go_must (refine wpList_append_own _ rfl (.tmp 60) (.tmp 62) _ rfl w.heap.size 3 i0 _ 1 8 Tryd.underlying23 H1 H2 H3 H4 rfl (by decide) (.slice x 0 q) 0 (kC (vcI zs k j)) rfl (ho.out.alloc _) ⟨wr.heap.size, 0, none⟩ 1 1 [.int .i64 k] rfl rfl (one_at _ rfl _ _) (by simp [Value.oneCell']) (by unfold maxLen; omega) (by omega) (by simp; omega) ?_); intro v3 w3 ho3 hg3 _; obtain ⟨x3, q3, rfl⟩ := wk_slice ho3; have Ho3 := Lib.hid ho3; have Hb3 := Lib.hid ((hb.out.alloc HB _).grown hg3 (by simp; omega) (fun k hk => (ho.out.lt k hk).1)); clear ho3 hg3)
              have HO4 : Hid (w3.ownsRow w.heap.size 3 1 (.slice x3 (0 + 1) q3) (0 + 1) (kC (vcI zs k (j + 1)))) := Lib.hid (by rw [hadd.out, ← kC_snoc]; exact Ho3.out)
              have HL4 : Hid ((vcI zs k (j + 1)).length = 0 + 1) := Lib.hid (by rw [hadd.out, List.length_append, hlen.out]; rfl)
              go_roundw
              case rel => exact ⟨j + 1, by omega, 0 + 1, by omega, by omega, q3, x3, ⟨rfl, rfl, rfl⟩, HL4, HO4⟩
              case measure => simp [intOf]; omega
            · obtain ⟨z, hz1, _, hz3⟩ := vcI_last (zs := zs) (n := k) (i := j) (by rw [hlen.out]; omega)
              rw [hlen.out] at hz1
              obtain ⟨b2, o2, rfl, hc2⟩ := kC_lastAt ho.out hlen.out (by omega) hz1
              have hzk := hz3 hno
              have hml := vcI_len zs k j
              rw [hlen.out] at hml
              have hms : (((m : Int) - 1).toNat) = m - 1 := by omega
              have hlt3 : m ≤ k := by
                have := vcN_len zs k
                have e : vcI zs k j = vcN zs k := by unfold vcI; rw [hno]; rfl
                have h := hlen.out
                rw [e] at h
                omega
              have hpos : 0 < m := by omega
              have hzn : (z != (k : Int)) = true := bne_iff_ne.2 (by omega)
              have hmb : ((m : Int) == 0) = false := beq_eq_false_iff_ne.2 (by omega)
              clear hz1 hz3 hno hm0 hml hzk
              go_wp2_with (at_builtin; go_must (refine wpList_append_own _ rfl (.tmp 60) (.tmp 62) _ rfl w.heap.size 3 i0 _ 1 8 Tryd.underlying23 H1 H2 H3 H4 rfl (by decide) (.slice (some ⟨b2, o2, none⟩) m q) m (kC (vcI zs k j)) rfl (ho.out.alloc _) ⟨wr.heap.size, 0, none⟩ 1 1 [.int .i64 k] rfl rfl (one_at _ rfl _ _) (by simp [Value.oneCell']) (by unfold maxLen; omega) (by omega) (by simp; omega) ?_); intro v3 w3 ho3 hg3 _; obtain ⟨x3, q3, rfl⟩ := wk_slice ho3; have Ho3 := Lib.hid ho3; have Hb3 := Lib.hid ((hb.out.alloc HB _).grown hg3 (by simp; omega) (fun k hk => (ho.out.lt k hk).1)); clear ho3 hg3)
              have HO4 : Hid (w3.ownsRow w.heap.size 3 1 (.slice x3 (m + 1) q3) (m + 1) (kC (vcI zs k (j + 1)))) := Lib.hid (by rw [hadd.out, ← kC_snoc]; exact Ho3.out)
              have HL4 : Hid ((vcI zs k (j + 1)).length = m + 1) := Lib.hid (by rw [hadd.out, List.length_append, hlen.out]; rfl)
              go_roundw
              case rel => exact ⟨j + 1, by omega, m + 1, by omega, by omega, q3, x3, ⟨rfl, rfl, rfl⟩, HL4, HO4⟩
              case measure => simp [intOf]; omega
          · have hskip : vcI zs k (j + 1) = vcI zs k j := HS.out (by
              cases hh : hasN zs k j
              · exact .inr (fun g => hyes ⟨hh, g⟩)
              · exact .inl rfl)
            have HL4 : Hid ((vcI zs k (j + 1)).length = m) := Lib.hid (by rw [hskip]; exact hlen.out)
            have HO4 : Hid (wr.ownsRow w.heap.size 3 1 (.slice x m q) m (kC (vcI zs k (j + 1)))) := Lib.hid (by rw [hskip]; exact ho.out)
            by_cases h26 : u = 26
            · subst h26
              by_cases hv : v = (k : Int)
              · subst hv
                have hhas : hasN zs k j = true := by
                  cases hh : hasN zs k j
                  · exact absurd ⟨hh, rfl, rfl⟩ hyes
                  · rfl
                have hpos := vcI_pos hhas
                rw [hlen.out] at hpos
                obtain ⟨z, hz1, hz2, _⟩ := vcI_last (zs := zs) (n := k) (i := j) (by rw [hlen.out]; omega)
                obtain rfl := hz2 hhas
                rw [hlen.out] at hz1
                obtain ⟨b2, o2, rfl, hc2⟩ := kC_lastAt ho.out hlen.out hpos hz1
                have hms : (((m : Int) - 1).toNat) = m - 1 := by omega
                clear hz1 hz2 hskip hyes
                go_wp2
                go_roundw
                case rel => exact ⟨j + 1, by omega, m, by omega, by omega, q, _, ⟨rfl, rfl, rfl⟩, HL4, HO4⟩
                case measure => simp [intOf]; omega
              · have hv2 : (v == (k : Int)) = false := beq_eq_false_iff_ne.2 hv
                clear hskip hyes
                go_wp2
                go_roundw
                case rel => exact ⟨j + 1, m, q, x, by omega, by omega, by go_num, rfl, HL4, HO4, hb⟩
                case measure => simp [intOf]; omega
            · have hu : (u == 26) = false := beq_eq_false_iff_ne.2 h26
              clear hskip hyes
              go_wp2
              go_roundw
              case rel => exact ⟨j + 1, m, q, x, by omega, by omega, by go_num, rfl, HL4, HO4, hb⟩
              case measure => simp [intOf]; omega
        · obtain rfl : j = n := by omega
          have hlen' := Lib.hid hlen.out
          have ho' := Lib.hid ho.out
          rw [HALL.out] at hlen' ho'
          go_wp2
          go_roundw
          case rel => exact ⟨k + 1, m, q, x, by omega, by omega, by go_num, rfl, hlen', ho', hb⟩
          case measure => simp [intOf]; omega
    · obtain rfl : k = 6 := by omega
      go_wp2
      exact HP.out _ _ _ _ hlen.out ho.out hb.out
end Go.Proofs.YthhmhglgjeaefaaDoor
