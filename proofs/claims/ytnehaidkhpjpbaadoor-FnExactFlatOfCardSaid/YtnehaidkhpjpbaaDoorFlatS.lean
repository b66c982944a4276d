/- FlatOf of impl and of spec, whole. -/
import Derived.Test.YtnehaidkhpjpbaaDoorFlatR
import Derived.Test.YtnehaidkhpjpbaaDoorVCode
namespace Go.Proofs.YtnehaidkhpjpbaaDoor
open Go.ChangeShapes Go.WideShapes Go.ChangeAt Go.RowKit
set_option linter.unusedVariables false
/-- What FlatOf yields: nothing for code that is refused. -/
def flatA (zs : List Ins) (ks : List Int) (r : Int) : List (Int × Int × Int) := if (codeV zs ks r).2 = 0 then flatF zs else []
theorem flatA_ok {zs : List Ins} {ks : List Int} {r : Int} (h : (codeV zs ks r).2 = 0) : flatA zs ks r = flatF zs := if_pos h
theorem flatA_no {zs : List Ins} {ks : List Int} {r : Int} (h : (codeV zs ks r).2 ≠ 0) : flatA zs ks r = [] := if_neg h
/-- Accepted code: its arguments are right, its structures have their ends. -/
theorem codeV_ok {zs : List Ins} {ks : List Int} {r : Int} (h : (codeV zs ks r).2 = 0) : argF zs ks r = 0 ∧ codeV zs ks r = vVer zs ks r := by
  unfold codeV at h
  by_cases h0 : argF zs ks r = 0
  · exact ⟨h0, if_neg (fun q => q h0)⟩
  · rw [if_pos h0] at h
    exact absurd h h0
theorem codeV_match {zs : List Ins} {ks : List Int} {r : Int} (h : (codeV zs ks r).2 = 0) : zs.length ≤ 40 ∧ ∀ k, k < zs.length → opens zs k → ∃ o e, vMatch zs k = some (o, e) ∧ MOK zs k o e := by
  obtain ⟨h0, h1⟩ := codeV_ok h
  obtain ⟨h40, _, hok, _, _⟩ := argF_ok h0
  rw [h1] at h
  exact ⟨h40, fun k hk ho => match_ok (okAll_vAll hok) h hk ho⟩
theorem flatA_len (zs : List Ins) (ks : List Int) (r : Int) : (flatA zs ks r).length ≤ 40 := by
  by_cases h : (codeV zs ks r).2 = 0
  · rw [flatA_ok h, flatF_len]; exact (codeV_match h).1
  · rw [flatA_no h]; simp
def FlatPostV (zs : List Ins) (ks : List Int) (r : Int) (w : World) (e : Ending) (w' : World) : Prop := ∃ a c, e = .returned (.tuple #[.slice a (flatA zs ks r).length c, .int .i64 (codeV zs ks r).2]) ∧ w'.ownsRow w.heap.size 116 3 (.slice a (flatA zs ks r).length c) (flatA zs ks r).length (flat f3C (flatA zs ks r)) ∧ Below w.heap.size w w'
theorem flatOf_any (zs : List Ins) (a : Option Addr) (c : Nat) (ks : List Int) (k : Option Addr) (kc : Nat) (r : Int) (hm : zs.length ≤ maxLen) (hk : ks.length ≤ maxLen) (w : World) (ht : VTabs w) (hz : Lies w a (flat insC zs)) (hy : Lies w k (kC ks)) :
    Calls Tryd.prog 37 #[.slice a zs.length c, .slice k ks.length kc, .int .i64 r] w (FlatPostV zs ks r w) := by
  have HV := Lib.hid (verifyCode_any zs a c ks k kc r hm hk w ht hz hy)
  by_cases h : (codeV zs ks r).2 = 0
  · obtain ⟨h40, hM⟩ := codeV_match h
    have HF := Lib.hid (fun w hz => implFlat_any zs a c h40 hM w hz)
    have HZ := Lib.hid hz
    have HP : Hid (∀ w1 a' c' w', Below w.heap.size w w1 → w'.ownsRow w1.heap.size 116 3 (.slice a' (flatF zs).length c') (flatF zs).length (flat f3C (flatF zs)) → Below w1.heap.size w1 w' → FlatPostV zs ks r w (.returned (.tuple #[.slice a' (flatF zs).length c', .int .i64 0])) w') := Lib.hid (fun w1 a' c' w' h1 h2 h3 => by
      unfold FlatPostV
      rw [flatA_ok h, h]
      exact ⟨a', c', rfl, own_base h2 h1.size, h1.trans (h3.mono h1.size)⟩)
    rw [h] at HV
    clear hz hy ht hm hk h hM
    generalize FlatPostV zs ks r w = POST at *
    generalize (codeV zs ks r).1 = x at *
    go_enter Tryd.func37, Tryd.ntmps37
    go_wp2_with fail
    refine Calls.mono HV.out ?_
    rintro e w1 ⟨rfl, hb1⟩
    have HB1 := Lib.hid hb1
    clear hb1
    go_wp2_with fail
    refine Calls.mono (HF.out _ (HZ.out.below HB1.out (Nat.le_refl _))) ?_
    rintro e w2 ⟨a', c', rfl, ho, hb2⟩
    have HO := Lib.hid (And.intro ho hb2)
    clear ho hb2
    go_wp2
    exact HP.out w1 _ _ _ HB1.out HO.out.1 HO.out.2
  · have HP : Hid (∀ w', Below w.heap.size w w' → FlatPostV zs ks r w (.returned (.tuple #[.slice none 0 0, .int .i64 (codeV zs ks r).2])) w') := Lib.hid (fun w' h1 => by
      unfold FlatPostV
      rw [flatA_no h]
      exact ⟨none, 0, rfl, World.ownsRow_nil _ _ _ _, h1⟩)
    clear hz hy ht hm hk
    have hb0 : ((codeV zs ks r).2 != 0) = true := by rw [bne_iff_ne]; exact h
    clear h
    generalize FlatPostV zs ks r w = POST at *
    generalize (codeV zs ks r).1 = x at *
    generalize (codeV zs ks r).2 = y at *
    go_enter Tryd.func37, Tryd.ntmps37
    go_wp2_with fail
    refine Calls.mono HV.out ?_
    rintro e w1 ⟨rfl, hb1⟩
    have HB1 := Lib.hid hb1
    clear hb1
    go_wp2
    exact HP.out _ HB1.out
theorem specFlatOf_any (zs : List Ins) (a : Option Addr) (c : Nat) (ks : List Int) (k : Option Addr) (kc : Nat) (r : Int) (hm : zs.length ≤ maxLen) (hk : ks.length ≤ maxLen) (w : World) (hz : Lies w a (flat insC zs)) (hy : Lies w k (kC ks)) :
    Calls Tryd.prog 36 #[.slice a zs.length c, .slice k ks.length kc, .int .i64 r] w (FlatPostV zs ks r w) := by
  have HNIL : Hid (∀ w1 y, Below w.heap.size w w1 → (codeV zs ks r).2 = y → y ≠ 0 → FlatPostV zs ks r w (.returned (.tuple #[.slice (some ⟨w1.heap.size, 0, none⟩) 0 0, .int .i64 y])) (w1.alloc (.cells #[] 116))) := Lib.hid (fun w1 y h1 h2 h3 => by
    subst h2
    unfold FlatPostV
    rw [flatA_no h3]
    exact ⟨some ⟨w1.heap.size, 0, none⟩, 0, rfl, own_base (World.ownsRow_lit (base := w1.heap.size) (e := 116) (size := 3) w1 #[] 0 (Nat.le_refl _) (Nat.zero_le _) rfl) h1.size, h1.alloc h1.size _⟩)
  have HA := Lib.hid (l04Ask_any zs a c ks k kc r hm hk w hz hy)
  unfold maxLen at hm hk
  by_cases h1 : 4096 < ks.length ∨ 4096 < zs.length
  · have hF : argF zs ks r = 2 := if_pos h1
    have HN := Lib.hid (HNIL.out w 2 (Below.refl _ _) (by unfold codeV; rw [hF, if_pos (by decide)]) (by decide))
    clear HA hz hy hF HNIL
    generalize FlatPostV zs ks r w = POST at *
    by_cases h2 : 4096 < zs.length
    · clear h1
      generalize zs.length = n at *
      generalize ks.length = m at *
      go_enter Tryd.func36, Tryd.ntmps36
      go_wp2
      exact HN.out
    · have h3 : 4096 < ks.length := by omega
      clear h1
      generalize zs.length = n at *
      generalize ks.length = m at *
      go_enter Tryd.func36, Tryd.ntmps36
      go_wp2
      exact HN.out
  have hz1 : ¬ 4096 < zs.length := by omega
  have hk1 : ¬ 4096 < ks.length := by omega
  clear h1
  by_cases h0 : argF zs ks r = 0
  case neg =>
    have HN := Lib.hid (fun w1 hb => HNIL.out w1 (argF zs ks r) hb (by unfold codeV; rw [if_pos h0]) h0)
    have hb0 : (argF zs ks r != 0) = true := by rw [bne_iff_ne]; exact h0
    clear hz hy HNIL h0 hm hk
    generalize FlatPostV zs ks r w = POST at *
    generalize argF zs ks r = y at *
    generalize zs.length = n at *
    generalize ks.length = m at *
    go_enter Tryd.func36, Tryd.ntmps36
    go_wp2_with fail
    refine Calls.mono HA.out ?_
    rintro e w1 ⟨rfl, hb1⟩
    have HB1 := Lib.hid hb1
    clear hb1
    go_wp2
    exact HN.out _ HB1.out
  obtain ⟨h40, hkb, hok, _, _⟩ := argF_ok h0
  have hR : codeV zs ks r = vVer zs ks r := if_neg (fun q => q h0)
  have HV : Hid (∀ w2, Below w.heap.size w w2 → Calls Tryd.prog 51 #[.slice a zs.length c, .slice k ks.length kc, .int .i64 r] w2 fun e w' => e = .returned (.tuple #[.int .i64 (codeV zs ks r).1, .int .i64 (codeV zs ks r).2]) ∧ Below w2.heap.size w2 w') := Lib.hid (fun w2 hb => by
    rw [hR]
    exact l04Verify_any k kc ks (kindsB_all hkb).1 (kindsB_all hkb).2 r zs a c h40 (fun j hj => okAll_at hok hj) w2 (hy.below hb (Nat.le_refl _)) (hz.below hb (Nat.le_refl _)))
  rw [h0] at HA
  clear h0 hkb hok hR
  by_cases h : (codeV zs ks r).2 = 0
  · obtain ⟨_, hM⟩ := codeV_match h
    have HF := Lib.hid (fun w hz => specFlat_any zs a c h40 hM w hz)
    have HZ := Lib.hid hz
    have HP : Hid (∀ w1 a' c' w', Below w.heap.size w w1 → w'.ownsRow w1.heap.size 116 3 (.slice a' (flatF zs).length c') (flatF zs).length (flat f3C (flatF zs)) → Below w1.heap.size w1 w' → FlatPostV zs ks r w (.returned (.tuple #[.slice a' (flatF zs).length c', .int .i64 0])) w') := Lib.hid (fun w1 a' c' w' h1 h2 h3 => by
      unfold FlatPostV
      rw [flatA_ok h, h]
      exact ⟨a', c', rfl, own_base h2 h1.size, h1.trans (h3.mono h1.size)⟩)
    rw [h] at HV
    clear hz hy hm hk h hM HNIL
    generalize FlatPostV zs ks r w = POST at *
    generalize (codeV zs ks r).1 = x at *
    go_enter Tryd.func36, Tryd.ntmps36
    go_wp2_with fail
    refine Calls.mono HA.out ?_
    rintro e w1 ⟨rfl, hb1⟩
    have HB1 := Lib.hid hb1
    clear hb1
    go_wp2_with fail
    refine Calls.mono (HV.out _ HB1.out) ?_
    rintro e w2 ⟨rfl, hb2⟩
    have HB2 := Lib.hid (HB1.out.trans (hb2.mono HB1.out.size))
    clear hb2
    go_wp2_with fail
    refine Calls.mono (HF.out _ (HZ.out.below HB2.out (Nat.le_refl _))) ?_
    rintro e w3 ⟨a', c', rfl, ho, hb3⟩
    have HO := Lib.hid (And.intro ho hb3)
    clear ho hb3
    go_wp2
    exact HP.out w2 _ _ _ HB2.out HO.out.1 HO.out.2
  · have HN := Lib.hid (fun w1 hb => HNIL.out w1 (codeV zs ks r).2 hb rfl h)
    have hb0 : ((codeV zs ks r).2 != 0) = true := by rw [bne_iff_ne]; exact h
    clear hz hy HNIL h hm hk
    generalize FlatPostV zs ks r w = POST at *
    generalize (codeV zs ks r).1 = x at *
    generalize (codeV zs ks r).2 = y at *
    generalize zs.length = n at *
    generalize ks.length = m at *
    go_enter Tryd.func36, Tryd.ntmps36
    go_wp2_with fail
    refine Calls.mono HA.out ?_
    rintro e w1 ⟨rfl, hb1⟩
    have HB1 := Lib.hid hb1
    clear hb1
    go_wp2_with fail
    refine Calls.mono (HV.out _ HB1.out) ?_
    rintro e w2 ⟨rfl, hb2⟩
    have HB2 := Lib.hid (HB1.out.trans (hb2.mono HB1.out.size))
    clear hb2
    go_wp2
    exact HN.out _ HB2.out
theorem flatOf_ex (zs : List Ins) (a : Option Addr) (c : Nat) (ks : List Int) (k : Option Addr) (kc : Nat) (r : Int) (hm : zs.length ≤ maxLen) (hk : ks.length ≤ maxLen) (w : World) (ht : VTabs w) (hz : Lies w a (flat insC zs)) (hy : Lies w k (kC ks)) :
    Calls Tryd.prog 37 #[.slice a zs.length c, .slice k ks.length kc, .int .i64 r] w fun e w' => ∃ a' c', e = .returned (.tuple #[.slice a' (flatA zs ks r).length c', .int .i64 (codeV zs ks r).2]) ∧ w'.ownsRow w.heap.size 116 3 (.slice a' (flatA zs ks r).length c') (flatA zs ks r).length (flat f3C (flatA zs ks r)) ∧ Below w.heap.size w w' :=
  (flatOf_any zs a c ks k kc r hm hk w ht hz hy).mono fun e w' h => h
theorem specFlatOf_ex (zs : List Ins) (a : Option Addr) (c : Nat) (ks : List Int) (k : Option Addr) (kc : Nat) (r : Int) (hm : zs.length ≤ maxLen) (hk : ks.length ≤ maxLen) (w : World) (hz : Lies w a (flat insC zs)) (hy : Lies w k (kC ks)) :
    Calls Tryd.prog 36 #[.slice a zs.length c, .slice k ks.length kc, .int .i64 r] w fun e w' => ∃ a' c', e = .returned (.tuple #[.slice a' (flatA zs ks r).length c', .int .i64 (codeV zs ks r).2]) ∧ w'.ownsRow w.heap.size 116 3 (.slice a' (flatA zs ks r).length c') (flatA zs ks r).length (flat f3C (flatA zs ks r)) ∧ Below w.heap.size w w' :=
  (specFlatOf_any zs a c ks k kc r hm hk w hz hy).mono fun e w' h => h
end Go.Proofs.YtnehaidkhpjpbaaDoor
