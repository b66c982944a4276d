/- The laws on ReadCode. -/
import Derived.Test.YtnokkkmokfojnaaDoorRdCode
import Derived.Outline
namespace Go.Proofs.YtnokkkmokfojnaaDoor
open Go.ChangeShapes Go.WideShapes Go.ChangeAt Go.RowKit
theorem specReadCode_any (s : ByteArray) (hm : s.size ≤ maxLen) (w : World) : Calls Tryd.prog 38 #[.string s] w (RdPost w (readF s).1 (readF s).2) := by
  unfold maxLen at hm
  by_cases hs : 65536 < s.size
  · have H := Lib.hid (readF_long hs)
    go_enter Tryd.func38, Tryd.ntmps38
    go_wp2
    go_ret2
    exact rd_err2 H.out rfl rfl rfl (Below.refl _ _)
  · have HR := Lib.hid (l02ReadBytes_any s hs w)
    go_enter Tryd.func38, Tryd.ntmps38
    go_wp2_with fail
    refine HR.out.mono ?_
    rintro e w' ⟨v, rfl, ho, hb⟩
    have Ho := Lib.hid ho
    have Hb := Lib.hid hb
    clear ho hb
    go_wp2
    go_ret2
    exact ⟨v, rfl, Ho.out, Hb.out⟩
def MarkPost (B n : Nat) (v : Value) (m : Int) (w : World) (e : Ending) (w' : World) : Prop :=
  e = .returned (.int .i64 (m + 2 * n)) ∧ w'.ownsRow B 25 2 v n (flat insC (marks m n)) ∧ w.grownBy w' v.ownBlock
theorem markInstrS_own (B n c : Nat) (a : Option Addr) (xs : List Value) (m : Int) (hm : 0 ≤ m ∧ m ≤ 1000000000) (hn : n ≤ 1048576) (w : World) (ho : w.ownsRow B 25 2 (.slice a n c) n xs) :
    Calls Tryd.prog 39 #[.slice a n c, .int .i64 m] w (MarkPost B n (.slice a n c) m w) := by
  rcases own_form ho with ⟨hv, rfl⟩ | ⟨g, c', hv⟩
  · simp only [Value.slice.injEq] at hv
    obtain ⟨rfl, _, rfl⟩ := hv
    clear ho
    go_enter Tryd.func39, Tryd.ntmps39
    go_wp2
    go_loop [1, 5] (fun q i => q = .int .i64 m ∧ i = .int .i64 0) (fun _ i => 0)
    case atStart => exact ⟨rfl, rfl⟩
    case round =>
      obtain ⟨rfl, rfl⟩ := hrel
      go_wp2
      go_ret
      exact ⟨by simp, World.ownsRow_nil _ _ _ _, World.grownBy.refl _ _⟩
  · simp only [Value.slice.injEq] at hv
    obtain ⟨rfl, _, rfl⟩ := hv
    exact (markInstrS_any B g n c xs m hm hn w ho).mono fun _ _ h => h
theorem readF_len (s : ByteArray) : (readF s).1.length ≤ 40 := by
  have key : ∀ (f p : Nat) (zs : List (Int × Int)), zs.length ≤ 40 → (goR s f p zs).1.length ≤ 40 := by
    intro f
    induction f with
    | zero => intro p zs h; exact h
    | succ f ih =>
      intro p zs h
      rw [goR]
      split
      · split
        · simp
        · split
          · simp
          · exact ih _ _ (by simp; omega)
      · exact h
  unfold readF
  split
  · simp
  · exact key _ _ _ (by simp)
theorem FnExactReadCode_came (s : ByteArray) (W : World) (hm : s.size ≤ maxLen) (hf : OpTab W ∧ ∃ aR bE, Sent W aR bE) :
    Calls Tryd.prog 12 #[.string s] W fun e w' => e = .returned (.bool true) ∧ Below W.heap.size W w' := by
  obtain ⟨hT, aR, bE, hS⟩ := hf
  have hb : (s.size : Int) ≤ 9223372036854775807 := by unfold maxLen at hm; omega
  have HT := Lib.hid hT
  have HS := Lib.hid hS
  have HA := Lib.hid (specReadCode_any s hm)
  have HB := Lib.hid (fun w hb => readCode_any s hm W w aR bE HT.out HS.out hb)
  have HL := Lib.hid (readF_len s)
  clear hT hS hm
  generalize (readF s).1 = zs at *
  generalize (readF s).2 = d at *
  have HE := Lib.hid (fun a b c d w hz hy => eqInstrS_same zs a b c d (by have := HL.out; omega) w hz hy)
  have hn40 := HL.out
  generalize hk : zs.length = k at *
  have HK := Lib.hid hk
  clear hk
  have hdd : (d != d) = false := by simp
  by_cases hlong : 1048576 < s.size
  · go_enter Tryd.func12, Tryd.ntmps12
    go_wp2
    go_ret
    exact ⟨rfl, Below.refl _ _⟩
  go_enter Tryd.func12, Tryd.ntmps12
  go_wp2_with fail
  refine (HA.out _).mono ?_
  rintro e w1 ⟨v1, rfl, ho1, hb1⟩
  rw [HK.out] at ho1
  obtain ⟨a1, c1, rfl⟩ := own_slice ho1
  have Ho1 := Lib.hid ho1
  have Hb1 := Lib.hid hb1
  clear ho1 hb1
  go_wp2_with fail
  refine (HB.out _ Hb1.out).mono ?_
  rintro e w2 ⟨v2, rfl, ho2, hb2⟩
  rw [HK.out] at ho2
  obtain ⟨a2, c2, rfl⟩ := own_slice ho2
  have Ho2 := Lib.hid ho2
  have Hl1 := Lib.hid ((lies_own Ho1.out).below hb2 (Nat.le_refl _))
  have Hb2 := Lib.hid (Hb1.out.trans (hb2.mono Hb1.out.size))
  clear ho2 hb2
  go_wp2_with fail
  refine (HE.out _ _ _ _ _ (lies_own Ho2.out) Hl1.out).mono ?_
  rintro e w3 ⟨rfl, hb3⟩
  have Ho3 := Lib.hid (own_bel Ho2.out hb3)
  have Hl3 := Lib.hid (Hl1.out.below hb3 (Nat.le_refl _))
  have Hb3 := Lib.hid (Hb2.out.trans (hb3.mono Hb2.out.size))
  clear hb3
  go_wp2_with fail
  refine (markInstrS_own _ _ _ _ _ 1 (by omega) (by omega) _ Ho3.out).mono ?_
  rintro e w4 ⟨rfl, ho4, hg4⟩
  have Hl4 := Lib.hid (Hl3.out.grown hg4 (fun b o hb he => by
    have h2 := (Ho2.out.lt b he).1
    have h1 := (Ho1.out.lt b (by rw [hb]; rfl)).2
    omega))
  have Hb4 := Lib.hid (Hb3.out.grown hg4 Hb3.out.size (fun q hq => by have := (Ho2.out.lt q hq).1; have := Hb1.out.size; omega))
  have Ho4 := Lib.hid ho4
  clear ho4 hg4
  go_wp2_with fail
  refine (heldInstrS_any _ _ _ 1 (by omega) (by omega) _ (lies_own Ho4.out)).mono ?_
  rintro e w5 ⟨rfl, rfl⟩
  have hq : ((1 : Int) + 2 * k != 1 + 2 * k) = false := by simp
  go_wp2_with fail
  refine (HB.out _ Hb4.out).mono ?_
  rintro e w6 ⟨v6, rfl, ho6, hb6⟩
  rw [HK.out] at ho6
  obtain ⟨a6, c6, rfl⟩ := own_slice ho6
  have Ho6 := Lib.hid ho6
  have Hl6 := Lib.hid (Hl4.out.below hb6 (Nat.le_refl _))
  have Hg6 := Lib.hid (own_bel Ho4.out hb6)
  have Hb6 := Lib.hid (Hb4.out.trans (hb6.mono Hb4.out.size))
  clear ho6 hb6
  go_wp2_with fail
  refine (HE.out _ _ _ _ _ (lies_own Ho6.out) Hl6.out).mono ?_
  rintro e w7 ⟨rfl, hb7⟩
  have Hg7 := Lib.hid (own_bel Hg6.out hb7)
  have Hb7 := Lib.hid (Hb6.out.trans (hb7.mono Hb6.out.size))
  clear hb7
  go_wp2_with fail
  refine (heldInstrS_any _ _ _ 1 (by omega) (by omega) _ (lies_own Hg7.out)).mono ?_
  rintro e w8 ⟨rfl, rfl⟩
  go_wp2
  go_ret
  exact ⟨rfl, Hb7.out⟩
end Go.Proofs.YtnokkkmokfojnaaDoor
