/- impl.BytesOf computes the same function as spec.BytesOf; the law FnExactBytesOf. -/
import Derived.Test.YtlohjeidaemejaaDoorByt
import Derived.Test.YtlohjeidaemejaaDoorOwn
namespace Go.Proofs.YtlohjeidaemejaaDoor
open Go.ChangeShapes Go.WideShapes Go.ChangeAt Go.RowKit Go.PlainAid
def bysC (s : ByteArray) : Int := if 65536 < s.size then 2 else if bysOK s = true then 0 else 3
def bysS (s : ByteArray) : ByteArray := if 65536 < s.size then ⟨#[]⟩ else bysB s
theorem bysC_long {s : ByteArray} (h : 65536 < s.size) : bysC s = 2 := if_pos h
theorem bysS_long {s : ByteArray} (h : 65536 < s.size) : bysS s = ⟨#[]⟩ := if_pos h
theorem bysC_no {s : ByteArray} (h : ¬ 65536 < s.size) (g : bysOK s = false) : bysC s = 3 := by unfold bysC; rw [if_neg h, g]; rfl
theorem bysC_yes {s : ByteArray} (h : ¬ 65536 < s.size) (g : bysOK s = true) : bysC s = 0 := by unfold bysC; rw [if_neg h, g]; rfl
theorem bysS_no {s : ByteArray} (h : ¬ 65536 < s.size) (g : bysOK s = false) : bysS s = ⟨#[]⟩ := by unfold bysS; rw [if_neg h, bysB_no g]
theorem bysS_yes {s : ByteArray} (h : ¬ 65536 < s.size) : bysS s = bysB s := by unfold bysS; rw [if_neg h]
theorem ret2_si {a b : ByteArray} {c d : Int} (h : a = b) (k : c = d) : Ending.returned (.tuple #[.string a, .int .i64 c]) = .returned (.tuple #[.string b, .int .i64 d]) := by rw [h, k]
def fillTo (s : ByteArray) (m k : Nat) : List Value := u8s (bysTo s k) ++ List.replicate (m - k) (.int .u8 0)
theorem fillTo_zero (s : ByteArray) (m : Nat) : fillTo s m 0 = List.replicate m (.int .u8 0) := by simp [fillTo, bysTo, u8s]
theorem fillTo_full (s : ByteArray) (m : Nat) : fillTo s m m = u8s (bysTo s m) := by simp [fillTo]
theorem fillTo_at (s : ByteArray) (m k : Nat) (h : k < m) : (fillTo s m k)[k]? = some (.int .u8 0) := by
  unfold fillTo
  rw [List.getElem?_append_right (by rw [u8s_len, bysTo_len]; exact Nat.le_refl _), u8s_len, bysTo_len, Nat.sub_self, List.getElem?_replicate, if_pos (by omega)]
theorem fillTo_set (s : ByteArray) (m k : Nat) (h : k < m) : (fillTo s m k).set k (.int .u8 ((byAt s k).toNat : Int)) = fillTo s m (k + 1) := by
  unfold fillTo
  rw [List.set_append_right _ _ (by rw [u8s_len, bysTo_len]; exact Nat.le_refl _), u8s_len, bysTo_len]
  obtain ⟨d, hd⟩ : ∃ d, m - k = d + 1 := ⟨m - k - 1, by omega⟩
  have hd2 : m - (k + 1) = d := by omega
  rw [hd, hd2, Nat.sub_self]
  show _ ++ (List.replicate (d + 1) _).set 0 _ = _
  rw [List.replicate_succ, List.set_cons_zero, bysTo, ← u8s_snoc, List.append_assoc]
  rfl
theorem bytesOf_any (s : ByteArray) (w : World) (hs : s.size ≤ maxLen) : Calls Tryd.prog 22 #[.string s] w fun e w' => e = .returned (.tuple #[.string (bysS s), .int .i64 (bysC s)]) ∧ Below w.heap.size w w' := by
  have hg := get_bt s
  have hbd : (s.size : Int) ≤ 9223372036854775807 := by unfold maxLen at hs; omega
  by_cases h : 65536 < s.size
  · have H := Lib.hid (And.intro (bysC_long h) (bysS_long h))
    go_enter Tryd.func22, Tryd.ntmps22
    go_wp2
    go_ret2
    exact ⟨ret2_si (by rw [H.out.2]) (by rw [H.out.1]), Below.refl _ _⟩
  have Hh := Lib.hid h
  by_cases hodd : s.size % 2 = 0
  case neg =>
    have H := Lib.hid (bysOK_odd hodd)
    have ho : ((s.size : Int) % 2 != 0) = true := by rw [bne_iff_ne]; omega
    go_enter Tryd.func22, Tryd.ntmps22
    go_wp2
    go_ret2
    exact ⟨ret2_si (by rw [bysS_no Hh.out H.out]) (by rw [bysC_no Hh.out H.out]), Below.refl _ _⟩
  have ho : ((s.size : Int) % 2 != 0) = false := by rw [bne_eq_false_iff_eq]; omega
  have Hodd := Lib.hid hodd
  have hsz : s.size ≤ 65536 := by omega
  obtain ⟨m, hm⟩ : ∃ m, m = s.size / 2 := ⟨_, rfl⟩
  have hm2 : 2 * m ≤ s.size := by omega
  have hm3 : s.size ≤ 2 * m := by omega
  have Hm := Lib.hid hm
  obtain ⟨i0, hi, hz0, hz1, hz2⟩ := info_parts Tryd.u8row
  have HI := Lib.hid (And.intro hi (And.intro hz0 (And.intro hz1 hz2)))
  clear hi hz0 hz1 hz2 hodd hm h
  go_enter Tryd.func22, Tryd.ntmps22
  go_wp2_with (at_make; go_must (refine wpList_make_full _ rfl _ _ _ rfl w.heap.size 5 i0 _ 1 Tryd.underlying22 HI.out.1 HI.out.2.1 HI.out.2.2.1 .i64 .i64 _ _ m rfl rfl (by omega) (by omega) (by rw [HI.out.2.2.2]; omega) (by unfold maxLen; omega) (Nat.le_refl _) ?_); intro w1 hown1 hgrow1)
  have Ho1 : Hid (w1.ownsRow w.heap.size 5 1 (.slice (some ⟨w.heap.size, 0, none⟩) m m) m (fillTo s m 0)) := by
    rw [fillTo_zero]
    have h1 : (madeCells (Value.int IntKind.u8 0).cells (m * 1)).toList = List.replicate (m * 1) (.int .u8 0) := toList_madeCells_one _ _
    rw [h1, Nat.mul_one] at hown1
    exact Lib.hid hown1
  have Hb1 := Lib.hid ((Below.refl w.heap.size w).grown hgrow1 (Nat.le_refl _) (by intro k hk; cases hk))
  clear hown1 hgrow1
  go_loopw [21] (fun i wr => ∃ k : Nat, k ≤ m ∧ i = .int .i64 k ∧ Hid (wr.ownsRow w.heap.size 5 1 (.slice (some ⟨w.heap.size, 0, none⟩) m m) m (fillTo s m k)) ∧ Hid (Below w.heap.size w wr) ∧ Hid (∀ j, j < k → okP s j)) (fun i _ => m - (intOf i).toNat)
  case atStart => exact ⟨0, Nat.zero_le _, rfl, Ho1, Hb1, Lib.hid (fun j hj => absurd hj (by omega))⟩
  case round =>
    obtain ⟨k, hk, rfl, ho, hb, hok⟩ := hrel
    have b2 := bt_nonneg s (2 * k)
    have b3 := bt_le s (2 * k)
    have b4 := bt_nonneg s (2 * k + 1)
    have b5 := bt_le s (2 * k + 1)
    have d1 := dg_rng (bt s (2 * k))
    have d2 := dg_rng (bt s (2 * k + 1))
    by_cases hlt : k < m
    · have hj1 : ((2 * k : Nat) : Int) < (s.size : Int) := by omega
      have hj2 : ((2 * k : Nat) : Int) + 1 < (s.size : Int) := by omega
      by_cases hp : okP s k
      · have p1 := hp.1
        have p2 := hp.2
        have hok2 : Hid (∀ j, j < k + 1 → okP s j) := Lib.hid (fun j hj => by
          by_cases e : j = k
          · rw [e]; exact hp
          · exact hok.out j (by omega))
        have hby := Lib.hid (byAt_num s k rfl rfl p1 p2)
        have hcell : wr.cell? ⟨w.heap.size, k, none⟩ = some (.int .u8 0) := (ho.out.cellAt k (by omega)).trans (fillTo_at s m k hlt)
        have hfrz : wr.frozen? ⟨w.heap.size, k, none⟩ = false := ho.out.frozenAt k
        clear hp hok
        go_wp2_with (go_at_call 44; refine (hexIdx_any _ (by omega) (by omega) _).mono ?_; rintro e w' ⟨rfl, rfl⟩)
        have hf : Hid ((wr.setCell ⟨w.heap.size, k, none⟩ (.int .u8 (16 * dg (bt s (2 * k)) + dg (bt s (2 * k + 1))))).ownsRow w.heap.size 5 1 (.slice (some ⟨w.heap.size, 0, none⟩) m m) m (fillTo s m (k + 1))) := by
          rw [hby.out, ← fillTo_set s m k hlt]
          exact Lib.hid (ho.out.stored k _).1
        have hk2 := Lib.hid (hb.out.setCell (p := ⟨w.heap.size, k, none⟩) (Nat.le_refl _) (.int .u8 (16 * dg (bt s (2 * k)) + dg (bt s (2 * k + 1)))))
        go_roundw
        case rel => exact ⟨k + 1, by omega, by go_num, hf, hk2, hok2⟩
        case measure => simp [intOf]; omega
      · have Hn := Lib.hid (bysOK_bad (s := s) (k := k) (by have := Hm.out; omega) hp)
        have hpn : dg (bt s (2 * k)) < 0 ∨ dg (bt s (2 * k + 1)) < 0 := by unfold okP at hp; omega
        clear hp hok
        by_cases hn1 : dg (bt s (2 * k)) < 0
        · clear hpn
          go_wp2_with (go_at_call 44; refine (hexIdx_any _ (by omega) (by omega) _).mono ?_; rintro e w' ⟨rfl, rfl⟩)
          go_ret2
          exact ⟨ret2_si (by rw [bysS_no Hh.out Hn.out]) (by rw [bysC_no Hh.out Hn.out]), hb.out⟩
        · have hn2 : dg (bt s (2 * k + 1)) < 0 := by omega
          clear hpn
          go_wp2_with (go_at_call 44; refine (hexIdx_any _ (by omega) (by omega) _).mono ?_; rintro e w' ⟨rfl, rfl⟩)
          go_ret2
          exact ⟨ret2_si (by rw [bysS_no Hh.out Hn.out]) (by rw [bysC_no Hh.out Hn.out]), hb.out⟩
    · obtain rfl : k = m := by omega
      have Hy := Lib.hid (bysOK_yes Hodd.out (fun j hj => hok.out j (by have := Hm.out; omega)))
      have ho2 := ho.out
      rw [fillTo_full] at ho2
      have hcv := own_str 22 9 5 Tryd.underlying22 Tryd.underlying5 Tryd.underlying9 ho2
      clear ho2
      go_wp2
      go_ret2
      exact ⟨ret2_si (by rw [bysS_yes Hh.out, bysB_yes Hy.out, ← Hm.out]) (by rw [bysC_yes Hh.out Hy.out]), hb.out⟩
end Go.Proofs.YtlohjeidaemejaaDoor
