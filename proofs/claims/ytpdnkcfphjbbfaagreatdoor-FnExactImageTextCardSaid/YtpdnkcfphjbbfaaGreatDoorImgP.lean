/- The bytes of a program, and that they tell valid programs apart: plain facts. -/
import Derived.Test.YtpdnkcfphjbbfaaGreatDoorCkP
import Derived.Test.YtpdnkcfphjbbfaaGreatDoorRdBack
import Derived.Test.YtpdnkcfphjbbfaaGreatDoorFrame
namespace Go.Proofs.YtpdnkcfphjbbfaaGreatDoor
open Go.ChangeShapes Go.WideShapes Go.ChangeAt Go.RowKit Go.PlainAid
set_option linter.unusedVariables false
def taL (t : TT) : List UInt8 := putTo t.k 1 ++ (putTo t.p 4 ++ (putTo t.d 4 ++ (putTo t.i 1 ++ (putTo t.q 1 ++ putTo t.r 1))))
def rtL (c : List Ins) : List UInt8 := putTo ((codeL c).length : Int) 2 ++ codeL c
def bitsN : List Bool → Nat
  | [] => 0
  | b :: t => 2 * bitsN t + (if b then 1 else 0)
def kdL (k : Int) : List UInt8 := putTo k 1
def payL (D : Pgm) : List UInt8 :=
  putTo (D.ks.length : Int) 1 ++ (D.ks.flatMap kdL ++ (putTo (D.rs.length : Int) 1 ++ (D.rs.flatMap rtL ++ (putTo (D.ts.length : Int) 1 ++ (D.ts.flatMap taL ++ [UInt8.ofNat (bitsN D.sa)])))))
def imgF (D : Pgm) : ByteArray := frameF ⟨(payL D).toArray⟩
theorem app_inj {α : Type} {a b u v : List α} (h : a.length = b.length) (e : a ++ u = b ++ v) : a = b ∧ u = v := List.append_inj e h
theorem putTo_inj {n m : Int} {size : Int} (hn : fitsN n size = true) (hm : fitsN m size = true) (e : putTo n size.toNat = putTo m size.toNat) : n = m := by
  have h1 := take_put ⟨#[]⟩ ⟨#[]⟩ hn
  have h2 := take_put ⟨#[]⟩ ⟨#[]⟩ hm
  rw [putS_yes hn, e, ← putS_yes hm] at h1
  exact h1.symm.trans h2
theorem put_inj {n m size : Int} {k : Nat} {u v : List UInt8} (hk : size.toNat = k) (hn : fitsN n size = true) (hm : fitsN m size = true) (e : putTo n k ++ u = putTo m k ++ v) : n = m ∧ u = v := by
  subst hk
  obtain ⟨h1, h2⟩ := app_inj (by rw [putTo_len, putTo_len]) e
  exact ⟨putTo_inj hn hm h1, h2⟩
theorem fm_inj {α : Type} (f : α → List UInt8) (P : α → Prop) (hf : ∀ x y u v, P x → P y → f x ++ u = f y ++ v → x = y ∧ u = v) :
    ∀ (xs ys : List α) (u v : List UInt8), xs.length = ys.length → (∀ x ∈ xs, P x) → (∀ y ∈ ys, P y) → xs.flatMap f ++ u = ys.flatMap f ++ v → xs = ys ∧ u = v
  | [], [], u, v, _, _, _, e => ⟨rfl, by simpa using e⟩
  | [], y :: ys, _, _, h, _, _, _ => by simp at h
  | x :: xs, [], _, _, h, _, _, _ => by simp at h
  | x :: xs, y :: ys, u, v, h, hx, hy, e => by
    simp only [List.flatMap_cons, List.append_assoc] at e
    obtain ⟨h1, h2⟩ := hf x y _ _ (hx x (by simp)) (hy y (by simp)) e
    obtain ⟨h3, h4⟩ := fm_inj f P hf xs ys u v (by simpa using h) (fun z hz => hx z (by simp [hz])) (fun z hz => hy z (by simp [hz])) h2
    exact ⟨by rw [h1, h3], h4⟩
theorem kind_fits {k : Int} (h : kindB k = true) : fitsN k 1 = true := by
  rcases kindB_yes h with rfl | rfl | rfl | rfl <;> rfl
theorem kd_inj (x y : Int) (u v : List UInt8) (hx : kindB x = true) (hy : kindB y = true) (e : kdL x ++ u = kdL y ++ v) : x = y ∧ u = v := put_inj (size := 1) rfl (kind_fits hx) (kind_fits hy) e
theorem codeL_inj {x y : List Ins} (hx : okAll x = true ∧ x.length ≤ 40) (hy : okAll y = true ∧ y.length ≤ 40) (e : codeL x = codeL y) : x = y := by
  have h1 := readF_code x hx.1 hx.2
  have h2 := readF_code y hy.1 hy.2
  rw [e, h2] at h1
  exact (Prod.mk.inj h1).1.symm
theorem len_fits {x : List Ins} (h : x.length ≤ 40) : fitsN ((codeL x).length : Int) 2 = true := by
  have := codeL_len x
  exact decide_eq_true (Or.inr (Or.inl ⟨rfl, by omega, by omega⟩))
theorem rt_inj (x y : List Ins) (u v : List UInt8) (hx : okAll x = true ∧ x.length ≤ 40) (hy : okAll y = true ∧ y.length ≤ 40) (e : rtL x ++ u = rtL y ++ v) : x = y ∧ u = v := by
  unfold rtL at e
  simp only [List.append_assoc] at e
  obtain ⟨h1, h2⟩ := put_inj (size := 2) rfl (len_fits hx.2) (len_fits hy.2) e
  obtain ⟨h3, h4⟩ := app_inj (by omega) h2
  exact ⟨codeL_inj hx hy h3, h4⟩
theorem tk_fits {t : TT} (h : tkB t = true) : fitsN t.k 1 = true ∧ fitsN t.p 4 = true ∧ fitsN t.d 4 = true ∧ fitsN t.i 1 = true ∧ fitsN t.q 1 = true ∧ fitsN t.r 1 = true := by
  have := of_decide_eq_true h
  exact ⟨decide_eq_true (Or.inl ⟨rfl, by omega, by omega⟩), decide_eq_true (Or.inr (Or.inr ⟨rfl, by omega, by omega⟩)), decide_eq_true (Or.inr (Or.inr ⟨rfl, by omega, by omega⟩)), decide_eq_true (Or.inl ⟨rfl, by omega, by omega⟩), decide_eq_true (Or.inl ⟨rfl, by omega, by omega⟩), decide_eq_true (Or.inl ⟨rfl, by omega, by omega⟩)⟩
theorem tk_inj (x y : TT) (u v : List UInt8) (hx : tkB x = true) (hy : tkB y = true) (e : taL x ++ u = taL y ++ v) : x = y ∧ u = v := by
  obtain ⟨a1, a2, a3, a4, a5, a6⟩ := tk_fits hx
  obtain ⟨b1, b2, b3, b4, b5, b6⟩ := tk_fits hy
  unfold taL at e
  simp only [List.append_assoc] at e
  obtain ⟨h1, e⟩ := put_inj (size := 1) rfl a1 b1 e
  obtain ⟨h2, e⟩ := put_inj (size := 4) rfl a2 b2 e
  obtain ⟨h3, e⟩ := put_inj (size := 4) rfl a3 b3 e
  obtain ⟨h4, e⟩ := put_inj (size := 1) rfl a4 b4 e
  obtain ⟨h5, e⟩ := put_inj (size := 1) rfl a5 b5 e
  obtain ⟨h6, hu⟩ := put_inj (size := 1) rfl a6 b6 e
  obtain ⟨x1, x2, x3, x4, x5, x6⟩ := x
  obtain ⟨y1, y2, y3, y4, y5, y6⟩ := y
  simp only at h1 h2 h3 h4 h5 h6
  subst h1 h2 h3 h4 h5 h6
  exact ⟨rfl, hu⟩
theorem bitsN_inj : ∀ (x y : List Bool), x.length = y.length → bitsN x = bitsN y → x = y
  | [], [], _, _ => rfl
  | [], _ :: _, h, _ => by simp at h
  | _ :: _, [], h, _ => by simp at h
  | a :: x, b :: y, h, e => by
    have hab : a = b ∧ bitsN x = bitsN y := by
      simp only [bitsN] at e
      cases a <;> cases b <;> simp at e ⊢ <;> omega
    rw [hab.1, bitsN_inj x y (by simpa using h) hab.2]
theorem bitsN_lt : ∀ (x : List Bool), bitsN x < 2 ^ x.length
  | [] => by decide
  | a :: x => by
    have := bitsN_lt x
    simp only [bitsN, List.length_cons, Nat.pow_succ]
    cases a <;> simp <;> omega
/-- What a valid program is. -/
structure Good (D : Pgm) : Prop where
  hk : D.ks.length ≤ 8 ∧ ∀ k ∈ D.ks, kindB k = true
  hr : D.rs.length ≤ 6 ∧ ∀ c ∈ D.rs, okAll c = true ∧ c.length ≤ 40
  ht : 1 ≤ D.ts.length ∧ D.ts.length ≤ 5 ∧ ∀ t ∈ D.ts, tkB t = true
  hs : D.sa.length = 8
theorem tkGo_zero {n : Int} : ∀ {ts : List TT} {j : Nat}, (tkGo n ts j).2 = 0 → ∀ t ∈ ts, tkB t = true
  | [], _, _, t, h => by simp at h
  | x :: r, j, h, t, ht => by
    rw [tkGo] at h
    by_cases hx : tkB x = false
    · rw [if_pos hx] at h; simp at h
    · rw [if_neg hx] at h
      by_cases hr : x.r ≥ n
      · rw [if_pos hr] at h; simp at h
      · rw [if_neg hr] at h
        rcases List.mem_cons.1 ht with rfl | h'
        · simpa using hx
        · exact tkGo_zero h t h'
theorem good_of {D : Pgm} (h : (ckF D).2 = 0) : Good D := by
  unfold ckF at h
  by_cases h1 : (kindsB D.ks && (wellR D.rs && decide (D.n3 = 8))) = false
  · rw [if_pos h1] at h; simp at h
  rw [if_neg h1] at h
  have h1' : (kindsB D.ks && (wellR D.rs && decide (D.n3 = 8))) = true := by simpa using h1
  simp only [Bool.and_eq_true, decide_eq_true_iff] at h1'
  obtain ⟨hk, hr, hs⟩ := h1'
  by_cases h2 : (allGo D.ks D.rs 0).2.2 ≠ 0
  · rw [if_pos h2] at h; exact absurd h h2
  rw [if_neg h2] at h
  unfold tkF at h
  by_cases h3 : D.ts.length = 0
  · rw [if_pos h3] at h; simp at h
  rw [if_neg h3] at h
  by_cases h5 : 5 < D.ts.length
  · rw [if_pos h5] at h; simp at h
  rw [if_neg h5] at h
  refine ⟨?_, ?_, ⟨by omega, by omega, tkGo_zero h⟩, hs⟩
  · unfold kindsB at hk
    simp only [Bool.and_eq_true, decide_eq_true_iff, List.all_eq_true] at hk
    exact hk
  · unfold wellR at hr
    simp only [Bool.and_eq_true, decide_eq_true_iff, List.all_eq_true] at hr
    refine ⟨hr.1, fun c hc => ?_⟩
    have := hr.2 c hc
    unfold wellB at this
    simp only [Bool.and_eq_true, decide_eq_true_iff] at this
    exact ⟨this.2, this.1⟩
theorem fits_small {n : Nat} (h : n ≤ 8) : fitsN (n : Int) 1 = true := decide_eq_true (Or.inl ⟨rfl, by omega, by omega⟩)
theorem pay_inj {D E : Pgm} (hD : Good D) (hE : Good E) (e : payL D = payL E) : D = E := by
  obtain ⟨⟨a1, a2⟩, ⟨a3, a4⟩, ⟨_, a5, a6⟩, a7⟩ := hD
  obtain ⟨⟨b1, b2⟩, ⟨b3, b4⟩, ⟨_, b5, b6⟩, b7⟩ := hE
  unfold payL at e
  obtain ⟨h1, e⟩ := put_inj (size := 1) rfl (fits_small a1) (fits_small b1) e
  obtain ⟨k1, e⟩ := fm_inj kdL (fun k => kindB k = true) kd_inj _ _ _ _ (by omega) a2 b2 e
  obtain ⟨h2, e⟩ := put_inj (size := 1) rfl (fits_small (by omega)) (fits_small (by omega)) e
  obtain ⟨k2, e⟩ := fm_inj rtL (fun c => okAll c = true ∧ c.length ≤ 40) rt_inj _ _ _ _ (by omega) a4 b4 e
  obtain ⟨h3, e⟩ := put_inj (size := 1) rfl (fits_small (by omega)) (fits_small (by omega)) e
  obtain ⟨k3, e⟩ := fm_inj taL (fun t => tkB t = true) tk_inj _ _ _ _ (by omega) a6 b6 e
  have hb : bitsN D.sa = bitsN E.sa := by
    have q1 := bitsN_lt D.sa
    have q2 := bitsN_lt E.sa
    rw [a7] at q1
    rw [b7] at q2
    simp only [List.cons.injEq, and_true] at e
    have := congrArg UInt8.toNat e
    rw [UInt8.toNat_ofNat', UInt8.toNat_ofNat'] at this
    omega
  have k4 := bitsN_inj _ _ (a7.trans b7.symm) hb
  obtain ⟨ks, rs, ts, sa⟩ := D
  obtain ⟨ks', rs', ts', sa'⟩ := E
  simp only at k1 k2 k3 k4
  subst k1 k2 k3 k4
  rfl
theorem fm_len {α : Type} (f : α → List UInt8) (m : Nat) : ∀ (xs : List α), (∀ x ∈ xs, (f x).length ≤ m) → (xs.flatMap f).length ≤ m * xs.length
  | [], _ => by simp
  | x :: r, h => by
    have h1 := h x (by simp)
    have h2 := fm_len f m r (fun y hy => h y (by simp [hy]))
    simp only [List.flatMap_cons, List.length_append, List.length_cons, Nat.mul_add, Nat.mul_one]
    omega
theorem kd_len (k : Int) : (kdL k).length = 1 := putTo_len _ _
theorem rt_len (c : List Ins) : (rtL c).length = 2 + (codeL c).length := by unfold rtL; rw [List.length_append, putTo_len]
theorem tk_len (t : TT) : (taL t).length = 12 := by unfold taL; simp only [List.length_append, putTo_len]
theorem pay_len {D : Pgm} (h : Good D) : (payL D).length ≤ 2000 := by
  obtain ⟨⟨a1, a2⟩, ⟨a3, a4⟩, ⟨_, a5, a6⟩, a7⟩ := h
  have h1 := fm_len kdL 1 D.ks (fun k _ => by rw [kd_len]; exact Nat.le_refl _)
  have h2 := fm_len rtL 202 D.rs (fun c hc => by rw [rt_len]; have := codeL_len c; have := (a4 c hc).2; omega)
  have h3 := fm_len taL 12 D.ts (fun t _ => by rw [tk_len]; exact Nat.le_refl _)
  unfold payL
  simp only [List.length_append, putTo_len, List.length_cons, List.length_nil]
  omega
theorem mk_app (a b : List UInt8) : (⟨(a ++ b).toArray⟩ : ByteArray) = ⟨a.toArray⟩ ++ ⟨b.toArray⟩ := (bapp a b).symm
theorem frame_list (s : ByteArray) : (frameF s).data.toList = [80, 76, 67, 49] ++ ((putS (s.size : Int) 4).data.toList ++ (s.data.toList ++ (putS (sumTo (bodyF s) (bodyF s).size) 2).data.toList)) := by
  unfold frameF
  rw [app_list]
  have : (bodyF s).data.toList = [80, 76, 67, 49] ++ ((putS (s.size : Int) 4).data.toList ++ s.data.toList) := by
    unfold bodyF
    rw [app_list, app_list]
    simp
  rw [this]
  simp
theorem frame_inj {s t : ByteArray} (hs : s.size ≤ 60000) (ht : t.size ≤ 60000) (e : frameF s = frameF t) : s = t := by
  have h := congrArg (fun b => b.data.toList) e
  simp only [frame_list] at h
  have p1 : (putS (s.size : Int) 4).data.toList.length = 4 := by rw [size_list]; exact putS_4 (fits4 (by omega))
  have p2 : (putS (t.size : Int) 4).data.toList.length = 4 := by rw [size_list]; exact putS_4 (fits4 (by omega))
  have p3 : (putS (sumTo (bodyF s) (bodyF s).size) 2).data.toList.length = 2 := by rw [size_list]; exact putS_2 (sumTo_fits _ _)
  have p4 : (putS (sumTo (bodyF t) (bodyF t).size) 2).data.toList.length = 2 := by rw [size_list]; exact putS_2 (sumTo_fits _ _)
  obtain ⟨_, h⟩ := app_inj rfl h
  obtain ⟨_, h⟩ := app_inj (p1.trans p2.symm) h
  have hl := congrArg List.length h
  simp only [List.length_append] at hl
  obtain ⟨h, _⟩ := app_inj (by omega) h
  obtain ⟨⟨a⟩⟩ := s
  obtain ⟨⟨b⟩⟩ := t
  simp only at h
  rw [h]
theorem img_inj {D E : Pgm} (hD : Good D) (hE : Good E) (e : imgF D = imgF E) : D = E := by
  have h1 := pay_len hD
  have h2 := pay_len hE
  have := frame_inj (by rw [size_mk]; omega) (by rw [size_mk]; omega) e
  exact pay_inj hD hE (by simpa using this)
end Go.Proofs.YtpdnkcfphjbbfaaGreatDoor
