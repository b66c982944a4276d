/- Frames: what ReadFrame answers of a frame, of one bent, of one cut, of one with a byte more. -/
import Derived.Test.YtlohjeidaemejaaDoorFrm
namespace Go.Proofs.YtlohjeidaemejaaDoor
open Go.RowKit Go.PlainAid
def pre8 (s : ByteArray) : ByteArray := ⟨#[80, 76, 67, 49]⟩ ++ putS (s.size : Int) 4
theorem pre8_size {s : ByteArray} (h : s.size ≤ 60) : (pre8 s).size = 8 := by
  unfold pre8
  rw [ByteArray.size_append, putS_4 (fits4 (by omega))]
  rfl
theorem body_pre (s : ByteArray) : bodyF s = pre8 s ++ s := rfl
theorem body60 {s : ByteArray} (h : s.size ≤ 60) : (bodyF s).size = s.size + 8 := bodyF_size (by omega)
theorem frame_size {s : ByteArray} (h : s.size ≤ 60) : (frameF s).size = s.size + 10 := by
  unfold frameF
  rw [ByteArray.size_append, putS_2 (sumTo_fits _ _), body60 h]
theorem bt_frame_body {s : ByteArray} (h : s.size ≤ 60) (k : Nat) (hk : k < s.size + 8) : bt (frameF s) k = bt (bodyF s) k := by
  unfold frameF
  exact bt_left _ _ _ (by rw [body60 h]; exact hk)
theorem bt_frame_pre {s : ByteArray} (h : s.size ≤ 60) (k : Nat) (hk : k < 8) : bt (frameF s) k = bt (pre8 s) k := by
  rw [bt_frame_body h k (by omega), body_pre]
  exact bt_left _ _ _ (by rw [pre8_size h]; exact hk)
theorem bt_frame_text {s : ByteArray} (h : s.size ≤ 60) (k : Nat) (hk : k < s.size) : bt (frameF s) (8 + k) = bt s k := by
  rw [bt_frame_body h _ (by omega), body_pre, ← pre8_size h]
  exact bt_right _ _ _
theorem bt_frame_mark {s : ByteArray} (h : s.size ≤ 60) : bt (frameF s) 0 = 80 ∧ bt (frameF s) 1 = 76 ∧ bt (frameF s) 2 = 67 ∧ bt (frameF s) 3 = 49 := by
  refine ⟨?_, ?_, ?_, ?_⟩
  all_goals
    rw [bt_frame_pre h _ (by omega)]
    unfold pre8
    rw [bt_left _ _ _ (by show _ < 4; omega)]
    rfl
theorem take4_frame {s : ByteArray} (h : s.size ≤ 60) : takeF (frameF s) 4 4 = (s.size : Int) := by
  have e : frameF s = ⟨#[80, 76, 67, 49]⟩ ++ putS (s.size : Int) 4 ++ (s ++ putS (sumTo (bodyF s) (bodyF s).size) 2) := by
    show (⟨#[80, 76, 67, 49]⟩ ++ putS (s.size : Int) 4 ++ s) ++ putS (sumTo (bodyF s) (bodyF s).size) 2 = _
    rw [ByteArray.append_assoc]
  rw [e]
  exact take_put ⟨#[80, 76, 67, 49]⟩ _ (fits4 (by omega))
theorem take2_frame {s : ByteArray} (h : s.size ≤ 60) : takeF (frameF s) (s.size + 8) 2 = sumTo (frameF s) (s.size + 8) := by
  have e : sumTo (frameF s) (s.size + 8) = sumTo (bodyF s) (s.size + 8) := sumTo_congr (fun j hj => bt_frame_body h j hj)
  have e2 : frameF s = bodyF s ++ putS (sumTo (bodyF s) (bodyF s).size) 2 ++ ⟨#[]⟩ := by
    rw [show (⟨#[]⟩ : ByteArray) = ByteArray.empty from rfl, ByteArray.append_empty]; rfl
  rw [e, ← body60 h]
  conv => lhs; rw [e2]
  exact take_put (bodyF s) _ (sumTo_fits _ _)
theorem frame_C {s : ByteArray} (h : s.size ≤ 60) : rfC (frameF s) = 0 := by
  have z := frame_size h
  obtain ⟨m0, m1, m2, m3⟩ := bt_frame_mark h
  refine (rfC_zero_iff _).2 ⟨by omega, (mark_iff _ (by omega)).2 ⟨m0, m1, m2, m3⟩, ?_, ?_⟩
  · rw [take4_frame h, z]; omega
  · rw [sumE_eq _ (by omega), z]
    exact take2_frame h
theorem frame_S {s : ByteArray} (h : s.size ≤ 60) : rfS (frameF s) = s := by
  have z := frame_size h
  rw [rfS_0 (frame_C h), z]
  have hsz : ((frameF s).extract 8 (s.size + 10 - 2)).size = s.size := by rw [ByteArray.size_extract]; omega
  refine bt_ext hsz (fun k hk => ?_)
  rw [hsz] at hk
  rw [bt_extract _ _ _ _ (by omega) (by omega), bt_frame_text h k hk]
theorem bent_C {s b : ByteArray} (h : s.size ≤ 60) (hb : b.size = (frameF s).size) {i : Nat} (hi : i < (frameF s).size) (hne : bt b i ≠ bt (frameF s) i) (ho : ∀ j, j ≠ i → bt b j = bt (frameF s) j) : rfC b ≠ 0 := by
  intro hz
  have z := frame_size h
  obtain ⟨_, hm, h4, h2⟩ := (rfC_zero_iff _).1 hz
  obtain ⟨m0, m1, m2, m3⟩ := (mark_iff _ (by omega)).1 hm
  obtain ⟨t0, t1, t2, t3⟩ := bt_frame_mark h
  have i0 : i ≠ 0 := by rintro rfl; exact hne (m0.trans t0.symm)
  have i1 : i ≠ 1 := by rintro rfl; exact hne (m1.trans t1.symm)
  have i2 : i ≠ 2 := by rintro rfl; exact hne (m2.trans t2.symm)
  have i3 : i ≠ 3 := by rintro rfl; exact hne (m3.trans t3.symm)
  have e4 : takeF b 4 4 = takeF (frameF s) 4 4 := by rw [h4, take4_frame h, hb, z]; omega
  obtain ⟨q0, q1, q2, q3⟩ := take4_inj e4
  have i4 : i ≠ 4 := by rintro rfl; exact hne q0
  have i5 : i ≠ 5 := by rintro rfl; exact hne q1
  have i6 : i ≠ 6 := by rintro rfl; exact hne q2
  have i7 : i ≠ 7 := by rintro rfl; exact hne q3
  rw [sumE_eq _ (by omega), hb, z, show s.size + 10 - 2 = s.size + 8 by omega] at h2
  have tf := take2_frame h
  by_cases hlt : i < s.size + 8
  · have e2 : takeF b (s.size + 8) 2 = takeF (frameF s) (s.size + 8) 2 := take2_congr (ho _ (by omega)) (ho _ (by omega))
    exact sumTo_diff hne ho (s.size + 8) hlt (by rw [← h2, e2, tf])
  · have es : sumTo b (s.size + 8) = sumTo (frameF s) (s.size + 8) := sumTo_congr (fun j hj => ho j (by omega))
    have e2 : takeF b (s.size + 8) 2 = takeF (frameF s) (s.size + 8) 2 := by rw [h2, es, tf]
    obtain ⟨p0, p1⟩ := take2_inj e2
    have : i = s.size + 8 ∨ i = s.size + 8 + 1 := by omega
    rcases this with rfl | rfl
    · exact hne p0
    · exact hne p1
theorem cut_C {s : ByteArray} (h : s.size ≤ 60) {i : Nat} (hi : i < (frameF s).size) : rfC ((frameF s).extract 0 i) = 16 ∨ rfC ((frameF s).extract 0 i) = 8 := by
  have z := frame_size h
  have hsz : ((frameF s).extract 0 i).size = i := ext_size _ _ (by omega)
  by_cases h10 : i < 10
  · exact .inl (rfC_16 (by rw [hsz]; exact h10))
  · have g : ∀ k, k < i → bt ((frameF s).extract 0 i) k = bt (frameF s) k := fun k hk => by rw [bt_extract _ _ _ _ (by omega) (by omega), Nat.zero_add]
    obtain ⟨t0, t1, t2, t3⟩ := bt_frame_mark h
    refine .inr (rfC_8 (by rw [hsz]; exact h10) ((mark_iff _ (by omega)).2 ⟨?_, ?_, ?_, ?_⟩) ?_)
    · rw [g _ (by omega)]; exact t0
    · rw [g _ (by omega)]; exact t1
    · rw [g _ (by omega)]; exact t2
    · rw [g _ (by omega)]; exact t3
    · rw [take4_congr (g 4 (by omega)) (g 5 (by omega)) (g 6 (by omega)) (g 7 (by omega)), take4_frame h, hsz]
      omega
theorem more_C {s : ByteArray} (h : s.size ≤ 60) : rfC (frameF s ++ (⟨#[120]⟩ : ByteArray)) = 8 := by
  have z := frame_size h
  have hsz : (frameF s ++ (⟨#[120]⟩ : ByteArray)).size = s.size + 11 := by rw [ByteArray.size_append, z]; rfl
  have g : ∀ k, k < 10 → bt (frameF s ++ (⟨#[120]⟩ : ByteArray)) k = bt (frameF s) k := fun k hk => bt_left _ _ _ (by omega)
  obtain ⟨t0, t1, t2, t3⟩ := bt_frame_mark h
  refine rfC_8 (by omega) ((mark_iff _ (by omega)).2 ⟨?_, ?_, ?_, ?_⟩) ?_
  · rw [g _ (by omega)]; exact t0
  · rw [g _ (by omega)]; exact t1
  · rw [g _ (by omega)]; exact t2
  · rw [g _ (by omega)]; exact t3
  · rw [take4_congr (g 4 (by omega)) (g 5 (by omega)) (g 6 (by omega)) (g 7 (by omega)), take4_frame h, hsz]
    omega
theorem dg_hexD : ∀ q : Fin 16, dg ((hexD q.val).toNat : Int) = (q.val : Int) := by decide +kernel
theorem hexTo_even (s : ByteArray) (m k : Nat) (h : k < m) : (hexTo s m).getD (2 * k) 0 = hexD ((bt s k).toNat / 16) := by
  induction m with
  | zero => omega
  | succ m ih =>
    rw [hexTo]
    by_cases e : k < m
    · rw [getD_left _ _ _ _ (by rw [hexTo_len]; omega)]
      exact ih e
    · have : k = m := by omega
      subst this
      rw [getD_right _ _ _ _ (by rw [hexTo_len]; omega), hexTo_len, Nat.sub_self]
      rfl
theorem hexTo_odd (s : ByteArray) (m k : Nat) (h : k < m) : (hexTo s m).getD (2 * k + 1) 0 = hexD ((bt s k).toNat % 16) := by
  induction m with
  | zero => omega
  | succ m ih =>
    rw [hexTo]
    by_cases e : k < m
    · rw [getD_left _ _ _ _ (by rw [hexTo_len]; omega)]
      exact ih e
    · have : k = m := by omega
      subst this
      rw [getD_right _ _ _ _ (by rw [hexTo_len]; omega), hexTo_len, Nat.add_sub_cancel_left]
      rfl
theorem hexF_size {s : ByteArray} (h : s.size ≤ 60) : (hexF s).size = 2 * s.size := by
  rw [hexF_fits (by omega)]
  exact hexTo_len s s.size
theorem hex_dg {s : ByteArray} (h : s.size ≤ 60) (k : Nat) (hk : k < s.size) : dg (bt (hexF s) (2 * k)) = (((bt s k).toNat / 16 : Nat) : Int) ∧ dg (bt (hexF s) (2 * k + 1)) = (((bt s k).toNat % 16 : Nat) : Int) := by
  have b1 := bt_nonneg s k
  have b2 := bt_le s k
  have f := hexF_fits (s := s) (by omega)
  constructor
  · rw [f, bt_list ((hexTo s s.size)) (2 * k), hexTo_even _ _ _ hk]
    exact dg_hexD ⟨(bt s k).toNat / 16, by omega⟩
  · rw [f, bt_list ((hexTo s s.size)) (2 * k + 1), hexTo_odd _ _ _ hk]
    exact dg_hexD ⟨(bt s k).toNat % 16, by omega⟩
theorem hex_ok {s : ByteArray} (h : s.size ≤ 60) : bysOK (hexF s) = true := by
  have z := hexF_size h
  refine bysOK_yes (by omega) (fun j hj => ?_)
  obtain ⟨d1, d2⟩ := hex_dg h j (by omega)
  unfold okP
  rw [d1, d2]
  omega
theorem bysTo_get (s : ByteArray) (m k : Nat) (h : k < m) : (bysTo s m).getD k 0 = byAt s k := by
  induction m with
  | zero => omega
  | succ m ih =>
    rw [bysTo]
    by_cases e : k < m
    · rw [getD_left _ _ _ _ (by rw [bysTo_len]; omega)]
      exact ih e
    · have : k = m := by omega
      subst this
      rw [getD_right _ _ _ _ (by rw [bysTo_len]; omega), bysTo_len, Nat.sub_self]
      rfl
theorem hex_C {s : ByteArray} (h : s.size ≤ 60) : bysC (hexF s) = 0 := bysC_yes (by rw [hexF_size h]; omega) (hex_ok h)
theorem hex_S {s : ByteArray} (h : s.size ≤ 60) : bysS (hexF s) = s := by
  have z := hexF_size h
  rw [bysS_yes (by omega), bysB_yes (hex_ok h)]
  have hsz : (⟨(bysTo (hexF s) ((hexF s).size / 2)).toArray⟩ : ByteArray).size = s.size := by
    show (bysTo (hexF s) ((hexF s).size / 2)).length = _
    rw [bysTo_len]; omega
  refine bt_ext hsz (fun k hk => ?_)
  rw [hsz] at hk
  obtain ⟨d1, d2⟩ := hex_dg h k hk
  have b1 := bt_nonneg s k
  have b2 := bt_le s k
  rw [bt_list (bysTo (hexF s) ((hexF s).size / 2)) k, bysTo_get _ _ _ (by omega), ← byAt_num (hexF s) k d1 d2 (by omega) (by omega)]
  omega
end Go.Proofs.YtlohjeidaemejaaDoor
