/- impl.BytesOf and spec.BytesOf compute the same function. -/
import Derived.Test.YtlohjeidaemejaaRows
import Derived.Test.YtlohjeidaemejaaOwn
import Derived.Test.YtlohjeidaemejaaIdx
import Derived.Test.YtlohjeidaemejaaHex
import Derived.WalkSpells
namespace Go.Proofs.Ytlohjeidaemejaa
open Go.ChangeShapes Go.WideShapes Go.ChangeAt Go.RowKit Go.PlainAid
/-- The byte that digits 2j and 2j + 1 stand for. -/
def byAt (s : ByteArray) (j : Nat) : UInt8 := UInt8.ofNat (16 * dg (bt s (2 * j)) + dg (bt s (2 * j + 1))).toNat
def bysTo (s : ByteArray) : Nat → List UInt8
  | 0 => []
  | k + 1 => bysTo s k ++ [byAt s k]
theorem bysTo_len (s : ByteArray) (k : Nat) : (bysTo s k).length = k := by
  induction k with
  | zero => rfl
  | succ k ih => simp [bysTo, ih]
def okP (s : ByteArray) (j : Nat) : Prop := 0 ≤ dg (bt s (2 * j)) ∧ 0 ≤ dg (bt s (2 * j + 1))
instance (s : ByteArray) (j : Nat) : Decidable (okP s j) := inferInstanceAs (Decidable (_ ∧ _))
/-- Is s the text of bytes? -/
def bysOK (s : ByteArray) : Bool := decide (s.size % 2 = 0 ∧ ∀ j, j < s.size / 2 → okP s j)
def bysB (s : ByteArray) : ByteArray := if bysOK s = true then ⟨(bysTo s (s.size / 2)).toArray⟩ else ⟨#[]⟩
theorem bysOK_odd {s : ByteArray} (h : ¬ s.size % 2 = 0) : bysOK s = false := decide_eq_false fun x => h x.1
theorem bysOK_bad {s : ByteArray} {k : Nat} (hk : k < s.size / 2) (h : ¬ okP s k) : bysOK s = false := decide_eq_false fun x => h (x.2 k hk)
theorem bysOK_yes {s : ByteArray} (h : s.size % 2 = 0) (g : ∀ j, j < s.size / 2 → okP s j) : bysOK s = true := decide_eq_true ⟨h, g⟩
theorem bysB_no {s : ByteArray} (h : bysOK s = false) : bysB s = ⟨#[]⟩ := by unfold bysB; rw [h]; rfl
theorem bysB_yes {s : ByteArray} (h : bysOK s = true) : bysB s = ⟨(bysTo s (s.size / 2)).toArray⟩ := by unfold bysB; rw [h]; rfl
theorem ret2_sb {a b : ByteArray} {c d : Bool} (h : a = b) (k : c = d) : Ending.returned (.tuple #[.string a, .bool c]) = .returned (.tuple #[.string b, .bool d]) := by rw [h, k]
theorem byAt_num (s : ByteArray) (k : Nat) {h l : Int} (hh : dg (bt s (2 * k)) = h) (hl : dg (bt s (2 * k + 1)) = l) (h0 : 0 ≤ h) (l0 : 0 ≤ l) : 16 * h + l = ((byAt s k).toNat : Int) := by
  have b1 := dg_rng (bt s (2 * k))
  have b2 := dg_rng (bt s (2 * k + 1))
  unfold byAt
  rw [hh, hl] at *
  rw [UInt8.toNat_ofNat']
  omega
theorem bysTo_succ (s : ByteArray) (k : Nat) {n : Int} {B : Nat} {v : Value} {w : World} (hn : n = ((byAt s k).toNat : Int)) {e : TypeId}
    (h : w.ownsRow B e 1 v (k + 1) (u8s (bysTo s k) ++ [.int .u8 n])) : w.ownsRow B e 1 v (k + 1) (u8s (bysTo s (k + 1))) := by
  rw [hn, u8s_snoc] at h
  exact h
theorem l01Bytes_any (s : ByteArray) (w : World) (hs : s.size ≤ 70000000000000) : Calls Try.prog 32 #[.string s] w fun e w' => e = .returned (.tuple #[.string (bysB s), .bool (bysOK s)]) ∧ Below w.heap.size w w' := by
  have hg := get_bt s
  by_cases hodd : s.size % 2 = 0
  case neg =>
    have H := Lib.hid (bysOK_odd hodd)
    have ho : ((s.size : Int) % 2 != 0) = true := by rw [bne_iff_ne]; omega
    go_enter Try.func32, Try.ntmps32
    go_wp2
    go_ret2
    exact ⟨ret2_sb (by rw [bysB_no H.out]) (by rw [H.out]), Below.refl _ _⟩
  have ho : ((s.size : Int) % 2 != 0) = false := by rw [bne_eq_false_iff_eq]; omega
  have Hodd := Lib.hid hodd
  obtain ⟨m, hm⟩ : ∃ m, m = s.size / 2 := ⟨_, rfl⟩
  have hm2 : 2 * m ≤ s.size := by omega
  have hm3 : s.size ≤ 2 * m := by omega
  have Hm := Lib.hid hm
  obtain ⟨i0, hi, hz0, hz1, hz2⟩ := info_parts Try.u8row
  have HI := Lib.hid (And.intro hi (And.intro hz0 (And.intro hz1 hz2)))
  clear hi hz0 hz1 hz2 hodd hm
  go_enter Try.func32, Try.ntmps32
  go_wp2
  go_loopw [4, 5] (fun v i wr => ∃ k : Nat, k ≤ m ∧ i = .int .i64 ((2 * k : Nat) : Int) ∧ Hid (wr.ownsRow w.heap.size 5 1 v k (u8s (bysTo s k))) ∧ Hid (Below w.heap.size w wr) ∧ Hid (∀ j, j < k → okP s j)) (fun _ i _ => s.size - (intOf i).toNat)
  case atStart => exact ⟨0, Nat.zero_le _, rfl, Lib.hid (World.ownsRow_lit w #[] 0 (Nat.le_refl _) (Nat.zero_le _) rfl), Lib.hid ((Below.refl _ _).alloc (Nat.le_refl _) _), Lib.hid (fun j hj => absurd hj (by omega))⟩
  case round =>
    obtain ⟨k, hk, rfl, ho, hb, hok⟩ := hrel
    have b2 := bt_nonneg s (2 * k)
    have b3 := bt_le s (2 * k)
    have b4 := bt_nonneg s (2 * k + 1)
    have b5 := bt_le s (2 * k + 1)
    have d1 := dg_rng (bt s (2 * k))
    have d2 := dg_rng (bt s (2 * k + 1))
    by_cases hlt : k < m
    · have hj1 : ((2 * k : Nat) : Int) < (s.size : Int) := by omega
      have hj2 : ((2 * k : Nat) : Int) + 1 < (s.size : Int) := by omega
      by_cases hp : okP s k
      · have p1 := hp.1
        have p2 := hp.2
        have hok2 : Hid (∀ j, j < k + 1 → okP s j) := Lib.hid (fun j hj => by
          by_cases e : j = k
          · rw [e]; exact hp
          · exact hok.out j (by omega))
        have hby := Lib.hid (byAt_num s k rfl rfl p1 p2)
        obtain ⟨H1, H2, H3, H4⟩ := HI.out
        have hown := ho.out
        have hbel := hb.out
        clear hp hok
        go_wp2_with first | (go_at_call 39; refine (l01Digit_any _ (by omega) (by omega) _).mono ?_; rintro e w' ⟨rfl, rfl⟩) | (at_builtin; go_must (refine wpList_append_own _ rfl (.tmp 34) (.tmp 40) _ rfl w.heap.size 5 i0 _ 1 1 Try.underlying22 H1 H2 H3 H4 rfl (by decide) u4 k (u8s (bysTo s k)) rfl (hown.alloc _) ⟨wr.heap.size, 0, none⟩ 1 1 [.int .u8 (16 * dg (bt s (2 * k)) + dg (bt s (2 * k + 1)))] rfl rfl (cell_one_new _ _ _) (by simp [Value.oneCell']) (by unfold maxLen; omega) (by omega) (by have := hbel.size; simp; omega) ?_); intro v' w' g1 g2 _)
        have hf := Lib.hid (bysTo_succ s k hby.out g1)
        have hk2 := Lib.hid (((hbel.alloc hbel.size _).grown g2 (by have := hbel.size; simp; omega) (fun k hk => (hown.lt k hk).1)))
        clear g1 g2 hown hbel H1 H2 H3 H4
        go_wp2
        go_roundw
        case rel => exact ⟨k + 1, by omega, by go_num, hf, hk2, hok2⟩
        case measure => simp [intOf]; omega
      · have Hn := Lib.hid (bysOK_bad (s := s) (k := k) (by have := Hm.out; omega) hp)
        have hpn : dg (bt s (2 * k)) < 0 ∨ dg (bt s (2 * k + 1)) < 0 := by unfold okP at hp; omega
        clear hp hok
        by_cases hn1 : dg (bt s (2 * k)) < 0
        · clear hpn
          go_wp2_with (go_at_call 39; refine (l01Digit_any _ (by omega) (by omega) _).mono ?_; rintro e w' ⟨rfl, rfl⟩)
          go_ret2
          exact ⟨ret2_sb (by rw [bysB_no Hn.out]) (by rw [Hn.out]), hb.out⟩
        · have hn2 : dg (bt s (2 * k + 1)) < 0 := by omega
          clear hpn
          go_wp2_with (go_at_call 39; refine (l01Digit_any _ (by omega) (by omega) _).mono ?_; rintro e w' ⟨rfl, rfl⟩)
          go_ret2
          exact ⟨ret2_sb (by rw [bysB_no Hn.out]) (by rw [Hn.out]), hb.out⟩
    · obtain rfl : k = m := by omega
      have Hy := Lib.hid (bysOK_yes Hodd.out (fun j hj => hok.out j (by have := Hm.out; omega)))
      have hcv := own_str 22 9 5 Try.underlying22 Try.underlying5 Try.underlying9 ho.out
      go_wp2
      go_ret2
      exact ⟨ret2_sb (by rw [bysB_yes Hy.out, ← Hm.out]) (by rw [Hy.out]), hb.out⟩
end Go.Proofs.Ytlohjeidaemejaa
