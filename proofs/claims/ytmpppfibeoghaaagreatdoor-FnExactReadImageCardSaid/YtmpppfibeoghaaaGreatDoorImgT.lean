/- The bytes of a program, and that they tell valid programs apart: plain facts. -/
import Derived.Test.YtmpppfibeoghaaaGreatDoorCkP
import Derived.Test.YtmpppfibeoghaaaGreatDoorRdBack
import Derived.Test.YtmpppfibeoghaaaGreatDoorFrame
namespace Go.Proofs.YtmpppfibeoghaaaGreatDoor
open Go.ChangeShapes Go.WideShapes Go.ChangeAt Go.RowKit Go.PlainAid
set_option linter.unusedVariables false
def taL (t : TT) : List UInt8 := putTo t.k 1 ++ (putTo t.p 4 ++ (putTo t.d 4 ++ (putTo t.i 1 ++ (putTo t.q 1 ++ putTo t.r 1))))
def rtL (c : List Ins) : List UInt8 := putTo ((codeL c).length : Int) 2 ++ codeL c
def bitsN : List Bool → Nat
  | [] => 0
  | b :: t => 2 * bitsN t + (if b then 1 else 0)
def kdL (k : Int) : List UInt8 := putTo k 1
def payL (D : Pgm) : List UInt8 :=
  putTo (D.ks.length : Int) 1 ++ (D.ks.flatMap kdL ++ (putTo (D.rs.length : Int) 1 ++ (D.rs.flatMap rtL ++ (putTo (D.ts.length : Int) 1 ++ (D.ts.flatMap taL ++ [UInt8.ofNat (bitsN D.sa)])))))
def imgF (D : Pgm) : ByteArray := frameF ⟨(payL D).toArray⟩
theorem app_inj {α : Type} {a b u v : List α} (h : a.length = b.length) (e : a ++ u = b ++ v) : a = b ∧ u = v := List.append_inj e h
theorem putTo_inj {n m : Int} {size : Int} (hn : fitsN n size = true) (hm : fitsN m size = true) (e : putTo n size.toNat = putTo m size.toNat) : n = m := by
  have h1 := take_put ⟨#[]⟩ ⟨#[]⟩ hn
  have h2 := take_put ⟨#[]⟩ ⟨#[]⟩ hm
  rw [putS_yes hn, e, ← putS_yes hm] at h1
  exact h1.symm.trans h2
theorem put_inj {n m size : Int} {k : Nat} {u v : List UInt8} (hk : size.toNat = k) (hn : fitsN n size = true) (hm : fitsN m size = true) (e : putTo n k ++ u = putTo m k ++ v) : n = m ∧ u = v := by
  subst hk
  obtain ⟨h1, h2⟩ := app_inj (by rw [putTo_len, putTo_len]) e
  exact ⟨putTo_inj hn hm h1, h2⟩
theorem fm_inj {α : Type} (f : α → List UInt8) (P : α → Prop) (hf : ∀ x y u v, P x → P y → f x ++ u = f y ++ v → x = y ∧ u = v) :
    ∀ (xs ys : List α) (u v : List UInt8), xs.length = ys.length → (∀ x ∈ xs, P x) → (∀ y ∈ ys, P y) → xs.flatMap f ++ u = ys.flatMap f ++ v → xs = ys ∧ u = v
  | [], [], u, v, _, _, _, e => ⟨rfl, by simpa using e⟩
  | [], y :: ys, _, _, h, _, _, _ => by simp at h
  | x :: xs, [], _, _, h, _, _, _ => by simp at h
  | x :: xs, y :: ys, u, v, h, hx, hy, e => by
    simp only [List.flatMap_cons, List.append_assoc] at e
    obtain ⟨h1, h2⟩ := hf x y _ _ (hx x (by simp)) (hy y (by simp)) e
    obtain ⟨h3, h4⟩ := fm_inj f P hf xs ys u v (by simpa using h) (fun z hz => hx z (by simp [hz])) (fun z hz => hy z (by simp [hz])) h2
    exact ⟨by rw [h1, h3], h4⟩
theorem kind_fits {k : Int} (h : kindB k = true) : fitsN k 1 = true := by
  rcases kindB_yes h with rfl | rfl | rfl | rfl <;> rfl
theorem kd_inj (x y : Int) (u v : List UInt8) (hx : kindB x = true) (hy : kindB y = true) (e : kdL x ++ u = kdL y ++ v) : x = y ∧ u = v := put_inj (size := 1) rfl (kind_fits hx) (kind_fits hy) e
theorem codeL_inj {x y : List Ins} (hx : okAll x = true ∧ x.length ≤ 40) (hy : okAll y = true ∧ y.length ≤ 40) (e : codeL x = codeL y) : x = y := by
  have h1 := readF_code x hx.1 hx.2
  have h2 := readF_code y hy.1 hy.2
  rw [e, h2] at h1
  exact (Prod.mk.inj h1).1.symm
theorem len_fits {x : List Ins} (h : x.length ≤ 40) : fitsN ((codeL x).length : Int) 2 = true := by
  have := codeL_len x
  exact decide_eq_true (Or.inr (Or.inl ⟨rfl, by omega, by omega⟩))
theorem rt_inj (x y : List Ins) (u v : List UInt8) (hx : okAll x = true ∧ x.length ≤ 40) (hy : okAll y = true ∧ y.length ≤ 40) (e : rtL x ++ u = rtL y ++ v) : x = y ∧ u = v := by
  unfold rtL at e
  simp only [List.append_assoc] at e
  obtain ⟨h1, h2⟩ := put_inj (size := 2) rfl (len_fits hx.2) (len_fits hy.2) e
  obtain ⟨h3, h4⟩ := app_inj (by omega) h2
  exact ⟨codeL_inj hx hy h3, h4⟩
theorem tk_fits {t : TT} (h : tkB t = true) : fitsN t.k 1 = true ∧ fitsN t.p 4 = true ∧ fitsN t.d 4 = true ∧ fitsN t.i 1 = true ∧ fitsN t.q 1 = true ∧ fitsN t.r 1 = true := by
  have := of_decide_eq_true h
  exact ⟨decide_eq_true (Or.inl ⟨rfl, by omega, by omega⟩), decide_eq_true (Or.inr (Or.inr ⟨rfl, by omega, by omega⟩)), decide_eq_true (Or.inr (Or.inr ⟨rfl, by omega, by omega⟩)), decide_eq_true (Or.inl ⟨rfl, by omega, by omega⟩), decide_eq_true (Or.inl ⟨rfl, by omega, by omega⟩), decide_eq_true (Or.inl ⟨rfl, by omega, by omega⟩)⟩
theorem tk_inj (x y : TT) (u v : List UInt8) (hx : tkB x = true) (hy : tkB y = true) (e : taL x ++ u = taL y ++ v) : x = y ∧ u = v := by
  obtain ⟨a1, a2, a3, a4, a5, a6⟩ := tk_fits hx
  obtain ⟨b1, b2, b3, b4, b5, b6⟩ := tk_fits hy
  unfold taL at e
  simp only [List.append_assoc] at e
  obtain ⟨h1, e⟩ := put_inj (size := 1) rfl a1 b1 e
  obtain ⟨h2, e⟩ := put_inj (size := 4) rfl a2 b2 e
  obtain ⟨h3, e⟩ := put_inj (size := 4) rfl a3 b3 e
  obtain ⟨h4, e⟩ := put_inj (size := 1) rfl a4 b4 e
  obtain ⟨h5, e⟩ := put_inj (size := 1) rfl a5 b5 e
  obtain ⟨h6, hu⟩ := put_inj (size := 1) rfl a6 b6 e
  obtain ⟨x1, x2, x3, x4, x5, x6⟩ := x
  obtain ⟨y1, y2, y3, y4, y5, y6⟩ := y
  simp only at h1 h2 h3 h4 h5 h6
  subst h1 h2 h3 h4 h5 h6
  exact ⟨rfl, hu⟩
theorem bitsN_inj : ∀ (x y : List Bool), x.length = y.length → bitsN x = bitsN y → x = y
  | [], [], _, _ => rfl
  | [], _ :: _, h, _ => by simp at h
  | _ :: _, [], h, _ => by simp at h
  | a :: x, b :: y, h, e => by
    have hab : a = b ∧ bitsN x = bitsN y := by
      simp only [bitsN] at e
      cases a <;> cases b <;> simp at e ⊢ <;> omega
    rw [hab.1, bitsN_inj x y (by simpa using h) hab.2]
theorem bitsN_lt : ∀ (x : List Bool), bitsN x < 2 ^ x.length
  | [] => by decide
  | a :: x => by
    have := bitsN_lt x
    simp only [bitsN, List.length_cons, Nat.pow_succ]
    cases a <;> simp <;> omega
/-- What a valid program is. -/
structure Good (D : Pgm) : Prop where
  hk : D.ks.length ≤ 8 ∧ ∀ k ∈ D.ks, kindB k = true
  hr : D.rs.length ≤ 6 ∧ ∀ c ∈ D.rs, okAll c = true ∧ c.length ≤ 40
  ht : 1 ≤ D.ts.length ∧ D.ts.length ≤ 5 ∧ ∀ t ∈ D.ts, tkB t = true
  hs : D.sa.length = 8
theorem tkGo_zero {n : Int} : ∀ {ts : List TT} {j : Nat}, (tkGo n ts j).2 = 0 → ∀ t ∈ ts, tkB t = true
  | [], _, _, t, h => by simp at h
  | x :: r, j, h, t, ht => by
    rw [tkGo] at h
    by_cases hx : tkB x = false
    · rw [if_pos hx] at h; simp at h
    · rw [if_neg hx] at h
      by_cases hr : x.r ≥ n
      · rw [if_pos hr] at h; simp at h
      · rw [if_neg hr] at h
        rcases List.mem_cons.1 ht with rfl | h'
        · simpa using hx
        · exact tkGo_zero h t h'
theorem good_of {D : Pgm} (h : (ckF D).2 = 0) : Good D := by
  unfold ckF at h
  by_cases h1 : (kindsB D.ks && (wellR D.rs && decide (D.n3 = 8))) = false
  · rw [if_pos h1] at h; simp at h
  rw [if_neg h1] at h
  have h1' : (kindsB D.ks && (wellR D.rs && decide (D.n3 = 8))) = true := by simpa using h1
  simp only [Bool.and_eq_true, decide_eq_true_iff] at h1'
  obtain ⟨hk, hr, hs⟩ := h1'
  by_cases h2 : (allGo D.ks D.rs 0).2.2 ≠ 0
  · rw [if_pos h2] at h; exact absurd h h2
  rw [if_neg h2] at h
  unfold tkF at h
  by_cases h3 : D.ts.length = 0
  · rw [if_pos h3] at h; simp at h
  rw [if_neg h3] at h
  by_cases h5 : 5 < D.ts.length
  · rw [if_pos h5] at h; simp at h
  rw [if_neg h5] at h
  refine ⟨?_, ?_, ⟨by omega, by omega, tkGo_zero h⟩, hs⟩
  · unfold kindsB at hk
    simp only [Bool.and_eq_true, decide_eq_true_iff, List.all_eq_true] at hk
    exact hk
  · unfold wellR at hr
    simp only [Bool.and_eq_true, decide_eq_true_iff, List.all_eq_true] at hr
    refine ⟨hr.1, fun c hc => ?_⟩
    have := hr.2 c hc
    unfold wellB at this
    simp only [Bool.and_eq_true, decide_eq_true_iff] at this
    exact ⟨this.2, this.1⟩
theorem fits_small {n : Nat} (h : n ≤ 8) : fitsN (n : Int) 1 = true := decide_eq_true (Or.inl ⟨rfl, by omega, by omega⟩)
theorem pay_inj {D E : Pgm} (hD : Good D) (hE : Good E) (e : payL D = payL E) : D = E := by
  obtain ⟨⟨a1, a2⟩, ⟨a3, a4⟩, ⟨_, a5, a6⟩, a7⟩ := hD
  obtain ⟨⟨b1, b2⟩, ⟨b3, b4⟩, ⟨_, b5, b6⟩, b7⟩ := hE
  unfold payL at e
  obtain ⟨h1, e⟩ := put_inj (size := 1) rfl (fits_small a1) (fits_small b1) e
  obtain ⟨k1, e⟩ := fm_inj kdL (fun k => kindB k = true) kd_inj _ _ _ _ (by omega) a2 b2 e
  obtain ⟨h2, e⟩ := put_inj (size := 1) rfl (fits_small (by omega)) (fits_small (by omega)) e
  obtain ⟨k2, e⟩ := fm_inj rtL (fun c => okAll c = true ∧ c.length ≤ 40) rt_inj _ _ _ _ (by omega) a4 b4 e
  obtain ⟨h3, e⟩ := put_inj (size := 1) rfl (fits_small (by omega)) (fits_small (by omega)) e
  obtain ⟨k3, e⟩ := fm_inj taL (fun t => tkB t = true) tk_inj _ _ _ _ (by omega) a6 b6 e
  have hb : bitsN D.sa = bitsN E.sa := by
    have q1 := bitsN_lt D.sa
    have q2 := bitsN_lt E.sa
    rw [a7] at q1
    rw [b7] at q2
    simp only [List.cons.injEq, and_true] at e
    have := congrArg UInt8.toNat e
    rw [UInt8.toNat_ofNat', UInt8.toNat_ofNat'] at this
    omega
  have k4 := bitsN_inj _ _ (a7.trans b7.symm) hb
  obtain ⟨ks, rs, ts, sa⟩ := D
  obtain ⟨ks', rs', ts', sa'⟩ := E
  simp only at k1 k2 k3 k4
  subst k1 k2 k3 k4
  rfl
theorem fm_len {α : Type} (f : α → List UInt8) (m : Nat) : ∀ (xs : List α), (∀ x ∈ xs, (f x).length ≤ m) → (xs.flatMap f).length ≤ m * xs.length
  | [], _ => by simp
  | x :: r, h => by
    have h1 := h x (by simp)
    have h2 := fm_len f m r (fun y hy => h y (by simp [hy]))
    simp only [List.flatMap_cons, List.length_append, List.length_cons, Nat.mul_add, Nat.mul_one]
    omega
theorem kd_len (k : Int) : (kdL k).length = 1 := putTo_len _ _
theorem rt_len (c : List Ins) : (rtL c).length = 2 + (codeL c).length := by unfold rtL; rw [List.length_append, putTo_len]
theorem tk_len (t : TT) : (taL t).length = 12 := by unfold taL; simp only [List.length_append, putTo_len]
theorem pay_len {D : Pgm} (h : Good D) : (payL D).length ≤ 2000 := by
  obtain ⟨⟨a1, a2⟩, ⟨a3, a4⟩, ⟨_, a5, a6⟩, a7⟩ := h
  have h1 := fm_len kdL 1 D.ks (fun k _ => by rw [kd_len]; exact Nat.le_refl _)
  have h2 := fm_len rtL 202 D.rs (fun c hc => by rw [rt_len]; have := codeL_len c; have := (a4 c hc).2; omega)
  have h3 := fm_len taL 12 D.ts (fun t _ => by rw [tk_len]; exact Nat.le_refl _)
  unfold payL
  simp only [List.length_append, putTo_len, List.length_cons, List.length_nil]
  omega
theorem mk_app (a b : List UInt8) : (⟨(a ++ b).toArray⟩ : ByteArray) = ⟨a.toArray⟩ ++ ⟨b.toArray⟩ := (bapp a b).symm
theorem frame_list (s : ByteArray) : (frameF s).data.toList = [80, 76, 67, 49] ++ ((putS (s.size : Int) 4).data.toList ++ (s.data.toList ++ (putS (sumTo (bodyF s) (bodyF s).size) 2).data.toList)) := by
  unfold frameF
  rw [app_list]
  have : (bodyF s).data.toList = [80, 76, 67, 49] ++ ((putS (s.size : Int) 4).data.toList ++ s.data.toList) := by
    unfold bodyF
    rw [app_list, app_list]
    simp
  rw [this]
  simp
theorem frame_inj {s t : ByteArray} (hs : s.size ≤ 60000) (ht : t.size ≤ 60000) (e : frameF s = frameF t) : s = t := by
  have h := congrArg (fun b => b.data.toList) e
  simp only [frame_list] at h
  have p1 : (putS (s.size : Int) 4).data.toList.length = 4 := by rw [size_list]; exact putS_4 (fits4 (by omega))
  have p2 : (putS (t.size : Int) 4).data.toList.length = 4 := by rw [size_list]; exact putS_4 (fits4 (by omega))
  have p3 : (putS (sumTo (bodyF s) (bodyF s).size) 2).data.toList.length = 2 := by rw [size_list]; exact putS_2 (sumTo_fits _ _)
  have p4 : (putS (sumTo (bodyF t) (bodyF t).size) 2).data.toList.length = 2 := by rw [size_list]; exact putS_2 (sumTo_fits _ _)
  obtain ⟨_, h⟩ := app_inj rfl h
  obtain ⟨_, h⟩ := app_inj (p1.trans p2.symm) h
  have hl := congrArg List.length h
  simp only [List.length_append] at hl
  obtain ⟨h, _⟩ := app_inj (by omega) h
  obtain ⟨⟨a⟩⟩ := s
  obtain ⟨⟨b⟩⟩ := t
  simp only at h
  rw [h]
theorem img_inj {D E : Pgm} (hD : Good D) (hE : Good E) (e : imgF D = imgF E) : D = E := by
  have h1 := pay_len hD
  have h2 := pay_len hE
  have := frame_inj (by rw [size_mk]; omega) (by rw [size_mk]; omega) e
  exact pay_inj hD hE (by simpa using this)
end Go.Proofs.YtmpppfibeoghaaaGreatDoor
namespace Go.Proofs.YtmpppfibeoghaaaGreatDoor
open Go.ChangeShapes Go.WideShapes Go.ChangeAt Go.RowKit Go.PlainAid
set_option linter.unusedVariables false
theorem im_rs {a b : ByteArray} (h : a = b) : Ending.returned (.string a) = .returned (.string b) := by rw [h]
def bitZ (b : Bool) : Int := if b then 1 else 0
theorem l06Bit_any (b : Bool) (w : World) : Calls Tryz.prog 128 #[.bool b] w fun e w' => e = .returned (.int .i64 (bitZ b)) ∧ w = w' := by
  cases b
  all_goals
    go_enter Tryz.func128, Tryz.ntmps128
    go_wp2
    go_ret
    exact ⟨rfl, rfl⟩
theorem bits_step {sa : List Bool} {k : Nat} (h : k < sa.length) : (bitsN (sa.drop k) : Int) = 2 * (bitsN (sa.drop (k + 1)) : Int) + bitZ (sa.getD k false) := by
  rw [List.drop_eq_getElem_cons h, bitsN]
  have e : sa.getD k false = sa[k] := by simp [List.getD, h]
  rw [e]
  unfold bitZ
  cases sa[k] <;> simp
theorem bits_small {sa : List Bool} (h : sa.length ≤ 8) (k : Nat) : bitsN (sa.drop k) ≤ 255 := by
  have h1 := bitsN_lt (sa.drop k)
  have h2 : (sa.drop k).length ≤ 8 := by rw [List.length_drop]; omega
  have h3 : 2 ^ (sa.drop k).length ≤ 2 ^ 8 := Nat.pow_le_pow_right (by decide) h2
  omega
theorem l08Bits_any (sa : List Bool) (a : Option Addr) (c : Nat) (hn : sa.length ≤ 8) (w : World) (hz : Lies w a (flat bI sa)) :
    Calls Tryz.prog 84 #[.slice a sa.length c] w fun e w' => e = .returned (.int .i64 (bitsN sa : Nat)) ∧ w = w' := by
  have Hz := Lib.hid hz
  have HS := Lib.hid (fun k (h : k < sa.length) => bits_step h)
  have HB := Lib.hid (fun k => bits_small hn k)
  have HE : Hid (bitsN (sa.drop sa.length) = 0) := Lib.hid (by rw [List.drop_length]; rfl)
  have HD : Hid (bitsN (sa.drop 0) = bitsN sa) := Lib.hid (by rw [List.drop_zero])
  have HZ1 : Hid (∀ k, (bitZ (sa.getD k false)) = 0 ∨ (bitZ (sa.getD k false)) = 1) := Lib.hid (fun k => by unfold bitZ; cases sa.getD k false <;> simp)
  clear hz
  generalize hL : sa.length = n at *
  have HL := Lib.hid hL
  clear hL
  go_enter Tryz.func84, Tryz.ntmps84
  go_wp2
  go_loop [3, 4] (fun v i => ∃ q : Int, -1 ≤ q ∧ q < n ∧ i = .int .i64 q ∧ v = .int .i64 (bitsN (sa.drop (q + 1).toNat) : Nat)) (fun _ i => (intOf i + 1).toNat)
  case atStart => exact ⟨(n : Int) - 1, by omega, by omega, rfl, by rw [show ((n : Int) - 1 + 1).toNat = n by omega, HE.out]; rfl⟩
  case round =>
    obtain ⟨q, hq, hqn, rfl, rfl⟩ := hrel
    by_cases h0 : 0 ≤ q
    · obtain ⟨k, rfl⟩ := Int.eq_ofNat_of_zero_le h0
      obtain ⟨b, o, rfl, hbl, hcs⟩ := Hz.out.open (by rw [bC_len, HL.out]; omega)
      have d0 := bool_at hcs (i := k) (by rw [HL.out]; omega)
      have e1 : ((k : Int) + 1).toNat = k + 1 := by omega
      have hst := HS.out k (by omega)
      have hb1 := HB.out (k + 1)
      have hz1 := HZ1.out k
      have hkl : k < n := by omega
      rw [e1]
      clear hcs e1 h0 hq hqn
      generalize bitsN (sa.drop (k + 1)) = B at *
      generalize sa.getD k false = bb at *
      have HST := Lib.hid hst
      clear hst
      generalize hbz : bitZ bb = z at *
      have HC := Lib.hid (fun w => l06Bit_any bb w)
      rw [hbz] at HC
      have e2 : (0 : Int) ≤ 2 * (B : Int) + z := by omega
      have e3 : 2 * (B : Int) + z ≤ 600 := by omega
      clear hbz
      go_wp2_with fail
      refine Calls.mono (HC.out _) ?_
      rintro e w1 ⟨rfl, rfl⟩
      go_wp2
      go_round
      case rel => exact ⟨(k : Int) - 1, by omega, by omega, rfl, by rw [show ((k : Int) - 1 + 1).toNat = k by omega, HST.out]⟩
      case measure => (simp [intOf]; try omega)
    · obtain rfl : q = -1 := by omega
      go_wp2
      go_ret
      exact ⟨rfl, rfl⟩
end Go.Proofs.YtmpppfibeoghaaaGreatDoor
namespace Go.Proofs.YtmpppfibeoghaaaGreatDoor
open Go.ChangeShapes Go.WideShapes Go.ChangeAt Go.RowKit Go.PlainAid
set_option linter.unusedVariables false
/-- The payload as far as it is built. -/
def pk (D : Pgm) (j : Nat) : List UInt8 := putTo (D.ks.length : Int) 1 ++ (D.ks.take j).flatMap kdL
def pr (D : Pgm) (j : Nat) : List UInt8 := pk D D.ks.length ++ putTo (D.rs.length : Int) 1 ++ (D.rs.take j).flatMap rtL
def pt (D : Pgm) (j : Nat) : List UInt8 := pr D D.rs.length ++ putTo (D.ts.length : Int) 1 ++ (D.ts.take j).flatMap taL
theorem fm_step {α : Type} (f : α → List UInt8) {l : List α} {j : Nat} {d : α} (h : j < l.length) : (l.take (j + 1)).flatMap f = (l.take j).flatMap f ++ f (l.getD j d) := by
  have e : l.take (j + 1) = l.take j ++ [l[j]] := by rw [List.take_add_one, List.getElem?_eq_getElem h]; rfl
  rw [e, List.flatMap_append]
  simp [List.getD, h]
theorem pk_step {D : Pgm} {j : Nat} (h : j < D.ks.length) : pk D (j + 1) = pk D j ++ kdL (D.ks.getD j 0) := by unfold pk; rw [fm_step kdL h (d := 0)]; simp
theorem pr_step {D : Pgm} {j : Nat} (h : j < D.rs.length) : pr D (j + 1) = pr D j ++ rtL (D.rs.getD j []) := by unfold pr; rw [fm_step rtL h (d := [])]; simp
theorem pt_step {D : Pgm} {j : Nat} (h : j < D.ts.length) : pt D (j + 1) = pt D j ++ taL (D.ts.getD j t0) := by unfold pt; rw [fm_step taL h (d := t0)]; simp
theorem pay_pt (D : Pgm) : pt D D.ts.length ++ [UInt8.ofNat (bitsN D.sa)] = payL D := by
  unfold pt pr pk payL
  simp
theorem take_le {α : Type} (l : List α) (j : Nat) : (l.take j).length ≤ l.length := by rw [List.length_take]; omega
theorem pk_len {D : Pgm} (h : Good D) (j : Nat) : (pk D j).length ≤ 10 := by
  have h1 := fm_len kdL 1 (D.ks.take j) (fun k _ => by rw [kd_len]; exact Nat.le_refl _)
  have h2 := take_le D.ks j
  have := h.hk.1
  unfold pk
  rw [List.length_append, putTo_len]
  omega
theorem pr_len {D : Pgm} (h : Good D) (j : Nat) : (pr D j).length ≤ 1300 := by
  have h1 := fm_len rtL 202 (D.rs.take j) (fun c hc => by rw [rt_len]; have := codeL_len c; have := (h.hr.2 c (List.mem_of_mem_take hc)).2; omega)
  have h2 := take_le D.rs j
  have h3 := pk_len h D.ks.length
  have := h.hr.1
  unfold pr
  rw [List.length_append, List.length_append, putTo_len]
  omega
theorem pt_len {D : Pgm} (h : Good D) (j : Nat) : (pt D j).length ≤ 1400 := by
  have h1 := fm_len taL 12 (D.ts.take j) (fun t _ => by rw [tk_len]; exact Nat.le_refl _)
  have h2 := take_le D.ts j
  have h3 := pr_len h D.rs.length
  have := h.ht.2.1
  unfold pt
  rw [List.length_append, List.length_append, putTo_len]
  omega
theorem putB_any (n : Int) (k : Nat) (hk : k ≤ 4) (P : ByteArray) (hP : (⟨(putTo n k).toArray⟩ : ByteArray) = P) (w : World) : Calls Tryz.prog 81 #[.int .i64 n, .int .i64 (k : Int)] w fun e w' => e = .returned (.string P) ∧ Below w.heap.size w w' := by
  have := l01Put_any n (k : Int) (by omega) (by omega) w
  rw [Int.toNat_natCast, hP] at this
  exact this
set_option maxRecDepth 100000 in
set_option maxHeartbeats 4000000 in
theorem l08Text_any (h : PH) (D : Pgm) (hg : Good D) (w : World) (hz : PLies w h D) :
    Calls Tryz.prog 26 #[pV h D] w fun e w' => e = .returned (.string (imgF D)) ∧ Below w.heap.size w w' := by
  have HX := Lib.hid (Bx.start w (pO h D 28))
  have HZ := Lib.hid hz
  have HG := Lib.hid hg
  have hn0 : D.n0 ≤ 8 := hg.hk.1
  have hn1 : D.n1 ≤ 6 := hg.hr.1
  have hn2 : D.n2 ≤ 5 := hg.ht.2.1
  have H0 : Hid (D.ks.length = D.n0) := Lib.hid rfl
  have H1 : Hid (D.rs.length = D.n1) := Lib.hid rfl
  have H2 : Hid (D.ts.length = D.n2) := Lib.hid rfl
  have HK : Hid (∀ j, j < D.n0 → kindB (D.ks.getD j 0) = true) := Lib.hid (fun j hj => by
    have : j < D.ks.length := hj
    have e : D.ks.getD j 0 = D.ks[j] := by simp [List.getD, this]
    rw [e]; exact hg.hk.2 _ (List.getElem_mem this))
  have HR : Hid (∀ j, j < D.n1 → okAll (D.rs.getD j []) = true ∧ (D.rs.getD j []).length ≤ 40) := Lib.hid (fun j hj => by
    have : j < D.rs.length := hj
    have e : D.rs.getD j [] = D.rs[j] := by simp [List.getD, this]
    rw [e]; exact hg.hr.2 _ (List.getElem_mem this))
  have HBT := Lib.hid (fun w hz => l08Bits_any D.sa h.a3 h.c3 (by rw [hg.hs]; decide) w hz)
  have HB8 : Hid (bitsN D.sa ≤ 255) := Lib.hid (by have := bits_small (sa := D.sa) (by rw [hg.hs]; decide) 0; rwa [List.drop_zero] at this)
  have HF := Lib.hid (fun w => l01Frame_any ⟨(payL D).toArray⟩ (by have := pay_len hg; rw [size_mk]; omega) w)
  have HFI : Hid (frameF ⟨(payL D).toArray⟩ = imgF D) := Lib.hid rfl
  have LK := Lib.hid (pk_len hg)
  have LR := Lib.hid (pr_len hg)
  have LT := Lib.hid (pt_len hg)
  clear hz hg
  go_enter Tryz.func26, Tryz.ntmps26
  go_wp2_with fail
  refine Calls.mono (putB_any D.n0 1 (by decide) _ rfl _) ?_
  rintro e w1 ⟨rfl, hb⟩
  have HX := Lib.hid (HX.out.to hb)
  clear hb
  go_wp2
  go_loopw [3, 4] (fun t i wr => ∃ j : Nat, j ≤ D.n0 ∧ i = .int .i64 j ∧ t = .string ⟨(pk D j).toArray⟩ ∧ Hid (Bx w (pO h D 28) wr)) (fun _ i _ => D.n0 - (intOf i).toNat)
  case atStart => exact ⟨0, Nat.zero_le _, rfl, by unfold pk; simp; rfl, HX⟩
  case round =>
    clear HX
    obtain ⟨j, hj, rfl, rfl, HX⟩ := hrel
    have b0 := cell_of_row _ w.heap.size 0 _ _ _ HX.out.box
    have b1 := cell_of_row _ w.heap.size 1 _ _ _ HX.out.box
    have hl := LK.out j
    by_cases hlt : j < D.n0
    · obtain ⟨b, o, ea, hbl, hcs⟩ := HZ.out.ks.open (by rw [kC_len, H0.out]; omega)
      have d0 := (HX.out.bel.cell (p := ⟨b, o + j, none⟩) hbl).trans (kind_at hcs (i := j) (by rw [H0.out]; exact hlt))
      rw [ea] at b0
      have HS := Lib.hid (pk_step (D := D) (j := j) (by rw [H0.out]; exact hlt))
      have hkl := kd_len (D.ks.getD j 0)
      have HP := Lib.hid (putB_any (D.ks.getD j 0) 1 (by decide) ⟨(kdL (D.ks.getD j 0)).toArray⟩ rfl)
      clear hcs ea
      generalize D.ks.getD j 0 = x at *
      generalize pk D j = X at *
      have hkl' : (kdL x).length ≤ 1 := Nat.le_of_eq hkl
      clear hkl
      generalize hK : kdL x = K at *
      have HKK := Lib.hid hK
      clear hK
      go_wp2_with fail
      refine Calls.mono (HP.out _) ?_
      rintro e w2 ⟨rfl, hb⟩
      have HX := Lib.hid (HX.out.to hb)
      clear hb b0 b1 d0
      go_wp2
      go_roundw
      case rel => exact ⟨j + 1, by omega, by go_num, by rw [HS.out, bapp], HX⟩
      case measure => simp [intOf]; omega
    · obtain rfl : j = D.n0 := by omega
      have H : Hid (pk D D.n0 ++ putTo (D.n1 : Int) 1 = pr D 0) := Lib.hid (by unfold pr; rw [H0.out, H1.out]; simp)
      have hp1 := putTo_len (D.n1 : Int) 1
      have HP := Lib.hid (putB_any (D.n1 : Int) 1 (by decide) ⟨(putTo (D.n1 : Int) 1).toArray⟩ rfl)
      generalize pk D D.n0 = X at *
      have hp1' : (putTo (D.n1 : Int) 1).length ≤ 1 := Nat.le_of_eq hp1
      clear hp1
      generalize hA : putTo (D.n1 : Int) 1 = A at *
      have HA := Lib.hid hA
      clear hA
      go_wp2_with fail
      refine Calls.mono (HP.out _) ?_
      rintro e w2 ⟨rfl, hb⟩
      have HX := Lib.hid (HX.out.to hb)
      clear hb b0 b1
      go_wp2
      clear hlt hl
      go_loopw [3, 5] (fun t i wr => ∃ j : Nat, j ≤ D.n1 ∧ i = .int .i64 j ∧ t = .string ⟨(pr D j).toArray⟩ ∧ Hid (Bx w (pO h D 28) wr)) (fun _ i _ => D.n1 - (intOf i).toNat)
      case atStart => exact ⟨0, Nat.zero_le _, rfl, by rw [bapp, H.out], HX⟩
      case round =>
        clear HX
        obtain ⟨j, hj, rfl, rfl, HX⟩ := hrel
        have b1 := cell_of_row _ w.heap.size 1 _ _ _ HX.out.box
        have b2 := cell_of_row _ w.heap.size 2 _ _ _ HX.out.box
        have hl := LR.out j
        by_cases hlt : j < D.n1
        · obtain ⟨b, o, x, c2, ea, hbl, hcell, hlies⟩ := HZ.out.rs.at (j := j) (by rw [H1.out]; exact hlt)
          have d0 := (HX.out.bel.cell (p := ⟨b, o + j, none⟩) hbl).trans hcell
          rw [ea] at b1
          have HS := Lib.hid (pr_step (D := D) (j := j) (by rw [H1.out]; exact hlt))
          obtain ⟨hok, h40⟩ := HR.out j hlt
          have HLB := Lib.hid (fun w2 (hb : Below w.heap.size w w2) => l02Bytes_any (D.rs.getD j []) x c2 h40 hok w2 (hlies.below hb (Nat.le_refl _)))
          have hcl := codeL_len (D.rs.getD j [])
          clear hcell hlies ea hok
          generalize pr D j = X at *
          generalize D.rs.getD j [] = z at *
          generalize z.length = q at *
          have HRT : Hid (rtL z = putTo ((codeL z).length : Int) 2 ++ codeL z) := Lib.hid rfl
          have hp2 := putTo_len ((codeL z).length : Int) 2
          have hp2' : (putTo ((codeL z).length : Int) 2).length ≤ 2 := Nat.le_of_eq hp2
          have HP := Lib.hid (putB_any ((codeL z).length : Int) 2 (by decide) ⟨(putTo ((codeL z).length : Int) 2).toArray⟩ rfl)
          have hcl' : (codeL z).length ≤ 200 := by omega
          clear hp2 hcl h40
          generalize hA2 : putTo ((codeL z).length : Int) 2 = A2 at *
          generalize hCL : codeL z = CL at *
          have HA2 := Lib.hid hA2
          have HCL := Lib.hid hCL
          clear hA2 hCL
          go_wp2_with fail
          refine Calls.mono (HLB.out _ HX.out.bel) ?_
          rintro e w3 ⟨rfl, hb⟩
          have HX := Lib.hid (HX.out.to hb)
          clear hb b1 b2 d0
          go_wp2_with fail
          refine Calls.mono (HP.out _) ?_
          rintro e w4 ⟨rfl, hb⟩
          have HX := Lib.hid (HX.out.to hb)
          clear hb
          go_wp2
          go_roundw
          case rel => exact ⟨j + 1, by omega, by go_num, by rw [HS.out, HRT.out, bapp, bapp], HX⟩
          case measure => simp [intOf]; omega
        · obtain rfl : j = D.n1 := by omega
          have H : Hid (pr D D.n1 ++ putTo (D.n2 : Int) 1 = pt D 0) := Lib.hid (by unfold pt; rw [H1.out, H2.out]; simp)
          have hp1 := putTo_len (D.n2 : Int) 1
          have HP := Lib.hid (putB_any (D.n2 : Int) 1 (by decide) ⟨(putTo (D.n2 : Int) 1).toArray⟩ rfl)
          generalize pr D D.n1 = X at *
          have hp1' : (putTo (D.n2 : Int) 1).length ≤ 1 := Nat.le_of_eq hp1
          clear hp1
          generalize hA : putTo (D.n2 : Int) 1 = A at *
          have HA := Lib.hid hA
          clear hA
          go_wp2_with fail
          refine Calls.mono (HP.out _) ?_
          rintro e w2 ⟨rfl, hb⟩
          have HX := Lib.hid (HX.out.to hb)
          clear hb b1 b2
          go_wp2
          clear hlt hl
          go_loopw [3, 7] (fun t i wr => ∃ j : Nat, j ≤ D.n2 ∧ i = .int .i64 j ∧ t = .string ⟨(pt D j).toArray⟩ ∧ Hid (Bx w (pO h D 28) wr)) (fun _ i _ => D.n2 - (intOf i).toNat)
          case atStart => exact ⟨0, Nat.zero_le _, rfl, by rw [bapp, H.out], HX⟩
          case round =>
            clear HX
            obtain ⟨j, hj, rfl, rfl, HX⟩ := hrel
            have b2 := cell_of_row _ w.heap.size 2 _ _ _ HX.out.box
            have b3 := cell_of_row _ w.heap.size 3 _ _ _ HX.out.box
            have hl := LT.out j
            by_cases hlt : j < D.n2
            · obtain ⟨b, o, ea, hbl, hcs⟩ := HZ.out.ts.open (by rw [flat_len tC_len, H2.out]; omega)
              obtain ⟨q0, q1, q2, q3, q4, q5⟩ := C6.bel (tt_at hcs (i := j) (by rw [H2.out]; exact hlt)) HX.out.bel hbl
              rw [ea] at b2
              have HS := Lib.hid (pt_step (D := D) (j := j) (by rw [H2.out]; exact hlt))
              clear hcs ea
              generalize D.ts.getD j t0 = z at *
              have HXa := Lib.hid (HX.out.to (dbox wr (tO z 78)))
              have HYa := Lib.hid (heap_alloc_new wr (tO z 78))
              have HP1 := Lib.hid (putB_any z.k 1 (by decide) _ rfl)
              have HP2 := Lib.hid (putB_any z.p 4 (by decide) _ rfl)
              have HP3 := Lib.hid (putB_any z.d 4 (by decide) _ rfl)
              have HP4 := Lib.hid (putB_any z.i 1 (by decide) _ rfl)
              have HP5 := Lib.hid (putB_any z.q 1 (by decide) _ rfl)
              have HP6 := Lib.hid (putB_any z.r 1 (by decide) _ rfl)
              have HTL : Hid ((⟨(pt D (j + 1)).toArray⟩ : ByteArray) = ⟨(pt D j).toArray⟩ ++ ((((((⟨(putTo z.k 1).toArray⟩ ++ ⟨(putTo z.p 4).toArray⟩) ++ ⟨(putTo z.d 4).toArray⟩) ++ ⟨(putTo z.i 1).toArray⟩) ++ ⟨(putTo z.q 1).toArray⟩) ++ ⟨(putTo z.r 1).toArray⟩))) := Lib.hid (by
                rw [HS.out]
                simp only [bapp]
                unfold taL
                simp)
              have z1 : (⟨(putTo z.k 1).toArray⟩ : ByteArray).size = 1 := by rw [size_mk, putTo_len]
              have z2 : (⟨(putTo z.p 4).toArray⟩ : ByteArray).size = 4 := by rw [size_mk, putTo_len]
              have z3 : (⟨(putTo z.d 4).toArray⟩ : ByteArray).size = 4 := by rw [size_mk, putTo_len]
              have z4 : (⟨(putTo z.i 1).toArray⟩ : ByteArray).size = 1 := by rw [size_mk, putTo_len]
              have z5 : (⟨(putTo z.q 1).toArray⟩ : ByteArray).size = 1 := by rw [size_mk, putTo_len]
              have z6 : (⟨(putTo z.r 1).toArray⟩ : ByteArray).size = 1 := by rw [size_mk, putTo_len]
              have zt : (⟨(pt D j).toArray⟩ : ByteArray).size ≤ 1400 := by rw [size_mk]; exact hl
              clear hl HS
              generalize (⟨(putTo z.k 1).toArray⟩ : ByteArray) = P1 at *
              generalize (⟨(putTo z.p 4).toArray⟩ : ByteArray) = P2 at *
              generalize (⟨(putTo z.d 4).toArray⟩ : ByteArray) = P3 at *
              generalize (⟨(putTo z.i 1).toArray⟩ : ByteArray) = P4 at *
              generalize (⟨(putTo z.q 1).toArray⟩ : ByteArray) = P5 at *
              generalize (⟨(putTo z.r 1).toArray⟩ : ByteArray) = P6 at *
              generalize (⟨(pt D j).toArray⟩ : ByteArray) = T at *
              have y1 := Lib.hid (show (P1 ++ P2).size = 5 by rw [ByteArray.size_append, z1, z2])
              have y2 := Lib.hid (show ((P1 ++ P2) ++ P3).size = 9 by rw [ByteArray.size_append, y1.out, z3])
              have y3 := Lib.hid (show (((P1 ++ P2) ++ P3) ++ P4).size = 10 by rw [ByteArray.size_append, y2.out, z4])
              have y4 := Lib.hid (show ((((P1 ++ P2) ++ P3) ++ P4) ++ P5).size = 11 by rw [ByteArray.size_append, y3.out, z5])
              have y5 := Lib.hid (show (((((P1 ++ P2) ++ P3) ++ P4) ++ P5) ++ P6).size = 12 by rw [ByteArray.size_append, y4.out, z6])
              have Z1 := Lib.hid z1
              have Z2 := Lib.hid z2
              have Z3 := Lib.hid z3
              have Z4 := Lib.hid z4
              have Z5 := Lib.hid z5
              have Z6 := Lib.hid z6
              have ZT : Hid (¬ 9223372036854775807 < T.size + 12) := Lib.hid (by omega)
              clear z1 z2 z3 z4 z5 z6 zt
              go_wp2
              clear q0 q1 q2 q3 q4 q5 b2 b3
              have HSW : Hid (Below (wr.alloc (tO z 78)).heap.size (wr.alloc (tO z 78)) (wr.alloc (tO z 78)).drew) := Lib.hid (Below.refl _ _).drew
              refine wp_region_hl 25 (fun X => Below (wr.alloc (tO z 78)).heap.size (wr.alloc (tO z 78)) X) (by kernel_rfl) rfl rfl (by kernel_rfl) ?_
              refine hl_take (v := ?v0) 0 rfl (by kernel_rfl) (fun _ _ _ h => h) (Or.inl ⟨by rfl, ?hy0⟩) HSW.out ?rest0
              case hy0 =>
                intro X hSw
                have hk := blk_bel HYa.out hSw
                have q0 := cell_of_row X _ 0 _ _ _ hk
                have q1 := cell_of_row X _ 1 _ _ _ hk
                have q2 := cell_of_row X _ 2 _ _ _ hk
                have q3 := cell_of_row X _ 3 _ _ _ hk
                have q4 := cell_of_row X _ 4 _ _ _ hk
                have q5 := cell_of_row X _ 5 _ _ _ hk
                clear hk
                go_simp <;> with_reducible rfl
              try simp only [Act.put, List.setIfInBounds_toArray, List.set_cons_zero, List.set_cons_succ]
              refine hl_take (v := ?v1) 1 rfl (by kernel_rfl) (fun _ _ _ h => h) (Or.inl ⟨by rfl, ?hy1⟩) HSW.out ?rest1
              case hy1 =>
                intro X hSw
                have hk := blk_bel HYa.out hSw
                have q0 := cell_of_row X _ 0 _ _ _ hk
                have q1 := cell_of_row X _ 1 _ _ _ hk
                have q2 := cell_of_row X _ 2 _ _ _ hk
                have q3 := cell_of_row X _ 3 _ _ _ hk
                have q4 := cell_of_row X _ 4 _ _ _ hk
                have q5 := cell_of_row X _ 5 _ _ _ hk
                clear hk
                go_simp <;> with_reducible rfl
              try simp only [Act.put, List.setIfInBounds_toArray, List.set_cons_zero, List.set_cons_succ]
              refine hl_take (v := ?v2) 2 rfl (by kernel_rfl) (fun _ _ _ h => h) (Or.inl ⟨by rfl, ?hy2⟩) HSW.out ?rest2
              case hy2 =>
                intro X hSw
                have hk := blk_bel HYa.out hSw
                have q0 := cell_of_row X _ 0 _ _ _ hk
                have q1 := cell_of_row X _ 1 _ _ _ hk
                have q2 := cell_of_row X _ 2 _ _ _ hk
                have q3 := cell_of_row X _ 3 _ _ _ hk
                have q4 := cell_of_row X _ 4 _ _ _ hk
                have q5 := cell_of_row X _ 5 _ _ _ hk
                clear hk
                go_simp <;> with_reducible rfl
              try simp only [Act.put, List.setIfInBounds_toArray, List.set_cons_zero, List.set_cons_succ]
              refine hl_take (v := ?v4) 4 rfl (by kernel_rfl) (fun _ _ _ h => h) (Or.inl ⟨by rfl, ?hy4⟩) HSW.out ?rest4
              case hy4 =>
                intro X hSw
                have hk := blk_bel HYa.out hSw
                have q0 := cell_of_row X _ 0 _ _ _ hk
                have q1 := cell_of_row X _ 1 _ _ _ hk
                have q2 := cell_of_row X _ 2 _ _ _ hk
                have q3 := cell_of_row X _ 3 _ _ _ hk
                have q4 := cell_of_row X _ 4 _ _ _ hk
                have q5 := cell_of_row X _ 5 _ _ _ hk
                clear hk
                go_simp <;> with_reducible rfl
              try simp only [Act.put, List.setIfInBounds_toArray, List.set_cons_zero, List.set_cons_succ]
              refine hl_take (v := ?v5) 5 rfl (by kernel_rfl) (fun _ _ _ h => h) (Or.inl ⟨by rfl, ?hy5⟩) HSW.out ?rest5
              case hy5 =>
                intro X hSw
                have hk := blk_bel HYa.out hSw
                have q0 := cell_of_row X _ 0 _ _ _ hk
                have q1 := cell_of_row X _ 1 _ _ _ hk
                have q2 := cell_of_row X _ 2 _ _ _ hk
                have q3 := cell_of_row X _ 3 _ _ _ hk
                have q4 := cell_of_row X _ 4 _ _ _ hk
                have q5 := cell_of_row X _ 5 _ _ _ hk
                clear hk
                go_simp <;> with_reducible rfl
              try simp only [Act.put, List.setIfInBounds_toArray, List.set_cons_zero, List.set_cons_succ]
              refine hl_take (v := ?v8) 8 rfl (by kernel_rfl) (fun _ _ _ h => h) (Or.inl ⟨by rfl, ?hy8⟩) HSW.out ?rest8
              case hy8 =>
                intro X hSw
                have hk := blk_bel HYa.out hSw
                have q0 := cell_of_row X _ 0 _ _ _ hk
                have q1 := cell_of_row X _ 1 _ _ _ hk
                have q2 := cell_of_row X _ 2 _ _ _ hk
                have q3 := cell_of_row X _ 3 _ _ _ hk
                have q4 := cell_of_row X _ 4 _ _ _ hk
                have q5 := cell_of_row X _ 5 _ _ _ hk
                clear hk
                go_simp <;> with_reducible rfl
              try simp only [Act.put, List.setIfInBounds_toArray, List.set_cons_zero, List.set_cons_succ]
              refine hl_take (v := ?v9) 9 rfl (by kernel_rfl) (fun _ _ _ h => h) (Or.inl ⟨by rfl, ?hy9⟩) HSW.out ?rest9
              case hy9 =>
                intro X hSw
                have hk := blk_bel HYa.out hSw
                have q0 := cell_of_row X _ 0 _ _ _ hk
                have q1 := cell_of_row X _ 1 _ _ _ hk
                have q2 := cell_of_row X _ 2 _ _ _ hk
                have q3 := cell_of_row X _ 3 _ _ _ hk
                have q4 := cell_of_row X _ 4 _ _ _ hk
                have q5 := cell_of_row X _ 5 _ _ _ hk
                clear hk
                go_simp <;> with_reducible rfl
              try simp only [Act.put, List.setIfInBounds_toArray, List.set_cons_zero, List.set_cons_succ]
              refine hl_take (v := ?v12) 12 rfl (by kernel_rfl) (fun _ _ _ h => h) (Or.inl ⟨by rfl, ?hy12⟩) HSW.out ?rest12
              case hy12 =>
                intro X hSw
                have hk := blk_bel HYa.out hSw
                have q0 := cell_of_row X _ 0 _ _ _ hk
                have q1 := cell_of_row X _ 1 _ _ _ hk
                have q2 := cell_of_row X _ 2 _ _ _ hk
                have q3 := cell_of_row X _ 3 _ _ _ hk
                have q4 := cell_of_row X _ 4 _ _ _ hk
                have q5 := cell_of_row X _ 5 _ _ _ hk
                clear hk
                go_simp <;> with_reducible rfl
              try simp only [Act.put, List.setIfInBounds_toArray, List.set_cons_zero, List.set_cons_succ]
              refine hl_take (v := ?v13) 13 rfl (by kernel_rfl) (fun _ _ _ h => h) (Or.inl ⟨by rfl, ?hy13⟩) HSW.out ?rest13
              case hy13 =>
                intro X hSw
                have hk := blk_bel HYa.out hSw
                have q0 := cell_of_row X _ 0 _ _ _ hk
                have q1 := cell_of_row X _ 1 _ _ _ hk
                have q2 := cell_of_row X _ 2 _ _ _ hk
                have q3 := cell_of_row X _ 3 _ _ _ hk
                have q4 := cell_of_row X _ 4 _ _ _ hk
                have q5 := cell_of_row X _ 5 _ _ _ hk
                clear hk
                go_simp <;> with_reducible rfl
              try simp only [Act.put, List.setIfInBounds_toArray, List.set_cons_zero, List.set_cons_succ]
              refine hl_take (v := ?v16) 16 rfl (by kernel_rfl) (fun _ _ _ h => h) (Or.inl ⟨by rfl, ?hy16⟩) HSW.out ?rest16
              case hy16 =>
                intro X hSw
                have hk := blk_bel HYa.out hSw
                have q0 := cell_of_row X _ 0 _ _ _ hk
                have q1 := cell_of_row X _ 1 _ _ _ hk
                have q2 := cell_of_row X _ 2 _ _ _ hk
                have q3 := cell_of_row X _ 3 _ _ _ hk
                have q4 := cell_of_row X _ 4 _ _ _ hk
                have q5 := cell_of_row X _ 5 _ _ _ hk
                clear hk
                go_simp <;> with_reducible rfl
              try simp only [Act.put, List.setIfInBounds_toArray, List.set_cons_zero, List.set_cons_succ]
              refine hl_take (v := ?v17) 17 rfl (by kernel_rfl) (fun _ _ _ h => h) (Or.inl ⟨by rfl, ?hy17⟩) HSW.out ?rest17
              case hy17 =>
                intro X hSw
                have hk := blk_bel HYa.out hSw
                have q0 := cell_of_row X _ 0 _ _ _ hk
                have q1 := cell_of_row X _ 1 _ _ _ hk
                have q2 := cell_of_row X _ 2 _ _ _ hk
                have q3 := cell_of_row X _ 3 _ _ _ hk
                have q4 := cell_of_row X _ 4 _ _ _ hk
                have q5 := cell_of_row X _ 5 _ _ _ hk
                clear hk
                go_simp <;> with_reducible rfl
              try simp only [Act.put, List.setIfInBounds_toArray, List.set_cons_zero, List.set_cons_succ]
              refine hl_take (v := ?v20) 20 rfl (by kernel_rfl) (fun _ _ _ h => h) (Or.inl ⟨by rfl, ?hy20⟩) HSW.out ?rest20
              case hy20 =>
                intro X hSw
                have hk := blk_bel HYa.out hSw
                have q0 := cell_of_row X _ 0 _ _ _ hk
                have q1 := cell_of_row X _ 1 _ _ _ hk
                have q2 := cell_of_row X _ 2 _ _ _ hk
                have q3 := cell_of_row X _ 3 _ _ _ hk
                have q4 := cell_of_row X _ 4 _ _ _ hk
                have q5 := cell_of_row X _ 5 _ _ _ hk
                clear hk
                go_simp <;> with_reducible rfl
              try simp only [Act.put, List.setIfInBounds_toArray, List.set_cons_zero, List.set_cons_succ]
              refine hl_take (v := ?v21) 21 rfl (by kernel_rfl) (fun _ _ _ h => h) (Or.inl ⟨by rfl, ?hy21⟩) HSW.out ?rest21
              case hy21 =>
                intro X hSw
                have hk := blk_bel HYa.out hSw
                have q0 := cell_of_row X _ 0 _ _ _ hk
                have q1 := cell_of_row X _ 1 _ _ _ hk
                have q2 := cell_of_row X _ 2 _ _ _ hk
                have q3 := cell_of_row X _ 3 _ _ _ hk
                have q4 := cell_of_row X _ 4 _ _ _ hk
                have q5 := cell_of_row X _ 5 _ _ _ hk
                clear hk
                go_simp <;> with_reducible rfl
              try simp only [Act.put, List.setIfInBounds_toArray, List.set_cons_zero, List.set_cons_succ]
              refine hl_one 3 rfl (by kernel_rfl) (fun K hK => ?_)
              go_simp
              refine Calls.mono (HP1.out _) ?_
              rintro e u3 ⟨rfl, hb⟩
              refine hK.out _ _ (HSW.out.trans (hb.mono HSW.out.size)) ?_
              have HSW := Lib.hid (HSW.out.trans (hb.mono HSW.out.size))
              clear hK hb
              try simp only [Act.put, List.setIfInBounds_toArray, List.set_cons_zero, List.set_cons_succ]
              refine hl_one 6 rfl (by kernel_rfl) (fun K hK => ?_)
              go_simp
              refine Calls.mono (HP2.out _) ?_
              rintro e u6 ⟨rfl, hb⟩
              refine hK.out _ _ (HSW.out.trans (hb.mono HSW.out.size)) ?_
              have HSW := Lib.hid (HSW.out.trans (hb.mono HSW.out.size))
              clear hK hb
              try simp only [Act.put, List.setIfInBounds_toArray, List.set_cons_zero, List.set_cons_succ]
              refine hl_take (v := ?v7) 7 rfl (by kernel_rfl) (fun _ _ _ h => h) (Or.inl ⟨by rfl, ?hy7⟩) HSW.out ?rest7
              case hy7 =>
                intro X hSw
                have hk := blk_bel HYa.out hSw
                have q0 := cell_of_row X _ 0 _ _ _ hk
                have q1 := cell_of_row X _ 1 _ _ _ hk
                have q2 := cell_of_row X _ 2 _ _ _ hk
                have q3 := cell_of_row X _ 3 _ _ _ hk
                have q4 := cell_of_row X _ 4 _ _ _ hk
                have q5 := cell_of_row X _ 5 _ _ _ hk
                clear hk
                have f1 := Z1.out
                have f2 := Z2.out
                go_simp <;> with_reducible rfl
              try simp only [Act.put, List.setIfInBounds_toArray, List.set_cons_zero, List.set_cons_succ]
              refine hl_one 10 rfl (by kernel_rfl) (fun K hK => ?_)
              go_simp
              refine Calls.mono (HP3.out _) ?_
              rintro e u10 ⟨rfl, hb⟩
              refine hK.out _ _ (HSW.out.trans (hb.mono HSW.out.size)) ?_
              have HSW := Lib.hid (HSW.out.trans (hb.mono HSW.out.size))
              clear hK hb
              try simp only [Act.put, List.setIfInBounds_toArray, List.set_cons_zero, List.set_cons_succ]
              refine hl_take (v := ?v11) 11 rfl (by kernel_rfl) (fun _ _ _ h => h) (Or.inl ⟨by rfl, ?hy11⟩) HSW.out ?rest11
              case hy11 =>
                intro X hSw
                have hk := blk_bel HYa.out hSw
                have q0 := cell_of_row X _ 0 _ _ _ hk
                have q1 := cell_of_row X _ 1 _ _ _ hk
                have q2 := cell_of_row X _ 2 _ _ _ hk
                have q3 := cell_of_row X _ 3 _ _ _ hk
                have q4 := cell_of_row X _ 4 _ _ _ hk
                have q5 := cell_of_row X _ 5 _ _ _ hk
                clear hk
                have f1 := y1.out
                have f2 := Z3.out
                go_simp <;> with_reducible rfl
              try simp only [Act.put, List.setIfInBounds_toArray, List.set_cons_zero, List.set_cons_succ]
              refine hl_one 14 rfl (by kernel_rfl) (fun K hK => ?_)
              go_simp
              refine Calls.mono (HP4.out _) ?_
              rintro e u14 ⟨rfl, hb⟩
              refine hK.out _ _ (HSW.out.trans (hb.mono HSW.out.size)) ?_
              have HSW := Lib.hid (HSW.out.trans (hb.mono HSW.out.size))
              clear hK hb
              try simp only [Act.put, List.setIfInBounds_toArray, List.set_cons_zero, List.set_cons_succ]
              refine hl_take (v := ?v15) 15 rfl (by kernel_rfl) (fun _ _ _ h => h) (Or.inl ⟨by rfl, ?hy15⟩) HSW.out ?rest15
              case hy15 =>
                intro X hSw
                have hk := blk_bel HYa.out hSw
                have q0 := cell_of_row X _ 0 _ _ _ hk
                have q1 := cell_of_row X _ 1 _ _ _ hk
                have q2 := cell_of_row X _ 2 _ _ _ hk
                have q3 := cell_of_row X _ 3 _ _ _ hk
                have q4 := cell_of_row X _ 4 _ _ _ hk
                have q5 := cell_of_row X _ 5 _ _ _ hk
                clear hk
                have f1 := y2.out
                have f2 := Z4.out
                go_simp <;> with_reducible rfl
              try simp only [Act.put, List.setIfInBounds_toArray, List.set_cons_zero, List.set_cons_succ]
              refine hl_one 18 rfl (by kernel_rfl) (fun K hK => ?_)
              go_simp
              refine Calls.mono (HP5.out _) ?_
              rintro e u18 ⟨rfl, hb⟩
              refine hK.out _ _ (HSW.out.trans (hb.mono HSW.out.size)) ?_
              have HSW := Lib.hid (HSW.out.trans (hb.mono HSW.out.size))
              clear hK hb
              try simp only [Act.put, List.setIfInBounds_toArray, List.set_cons_zero, List.set_cons_succ]
              refine hl_take (v := ?v19) 19 rfl (by kernel_rfl) (fun _ _ _ h => h) (Or.inl ⟨by rfl, ?hy19⟩) HSW.out ?rest19
              case hy19 =>
                intro X hSw
                have hk := blk_bel HYa.out hSw
                have q0 := cell_of_row X _ 0 _ _ _ hk
                have q1 := cell_of_row X _ 1 _ _ _ hk
                have q2 := cell_of_row X _ 2 _ _ _ hk
                have q3 := cell_of_row X _ 3 _ _ _ hk
                have q4 := cell_of_row X _ 4 _ _ _ hk
                have q5 := cell_of_row X _ 5 _ _ _ hk
                clear hk
                have f1 := y3.out
                have f2 := Z5.out
                go_simp <;> with_reducible rfl
              try simp only [Act.put, List.setIfInBounds_toArray, List.set_cons_zero, List.set_cons_succ]
              refine hl_one 22 rfl (by kernel_rfl) (fun K hK => ?_)
              go_simp
              refine Calls.mono (HP6.out _) ?_
              rintro e u22 ⟨rfl, hb⟩
              refine hK.out _ _ (HSW.out.trans (hb.mono HSW.out.size)) ?_
              have HSW := Lib.hid (HSW.out.trans (hb.mono HSW.out.size))
              clear hK hb
              try simp only [Act.put, List.setIfInBounds_toArray, List.set_cons_zero, List.set_cons_succ]
              refine hl_take (v := ?v23) 23 rfl (by kernel_rfl) (fun _ _ _ h => h) (Or.inl ⟨by rfl, ?hy23⟩) HSW.out ?rest23
              case hy23 =>
                intro X hSw
                have hk := blk_bel HYa.out hSw
                have q0 := cell_of_row X _ 0 _ _ _ hk
                have q1 := cell_of_row X _ 1 _ _ _ hk
                have q2 := cell_of_row X _ 2 _ _ _ hk
                have q3 := cell_of_row X _ 3 _ _ _ hk
                have q4 := cell_of_row X _ 4 _ _ _ hk
                have q5 := cell_of_row X _ 5 _ _ _ hk
                clear hk
                have f1 := y4.out
                have f2 := Z6.out
                go_simp <;> with_reducible rfl
              try simp only [Act.put, List.setIfInBounds_toArray, List.set_cons_zero, List.set_cons_succ]
              refine hl_take (v := ?v24) 24 rfl (by kernel_rfl) (fun _ _ _ h => h) (Or.inl ⟨by rfl, ?hy24⟩) HSW.out ?rest24
              case hy24 =>
                intro X hSw
                have hk := blk_bel HYa.out hSw
                have q0 := cell_of_row X _ 0 _ _ _ hk
                have q1 := cell_of_row X _ 1 _ _ _ hk
                have q2 := cell_of_row X _ 2 _ _ _ hk
                have q3 := cell_of_row X _ 3 _ _ _ hk
                have q4 := cell_of_row X _ 4 _ _ _ hk
                have q5 := cell_of_row X _ 5 _ _ _ hk
                clear hk
                have f1 := ZT.out
                have f2 := y5.out
                go_simp <;> with_reducible rfl
              try simp only [Act.put, List.setIfInBounds_toArray, List.set_cons_zero, List.set_cons_succ]
              refine hl_done (by kernel_rfl) ?_
              go_simp
              go_wp2
              go_roundw
              case rel => exact ⟨j + 1, by omega, by go_num, by rw [HTL.out], Lib.hid (HXa.out.to HSW.out)⟩
              case measure => simp [intOf]; omega
            · obtain rfl : j = D.n2 := by omega
              have H : Hid (pt D D.n2 ++ [UInt8.ofNat (bitsN D.sa)] = payL D) := Lib.hid (by rw [← H2.out]; exact pay_pt D)
              have hpl := LT.out D.n2
              generalize pt D D.n2 = X at *
              go_wp2_with fail
              refine Calls.mono (HBT.out _ (HZ.out.below HX.out.bel (Nat.le_refl _)).sa) ?_
              rintro e w4 ⟨rfl, rfl⟩
              have hB := HB8.out
              have hw8 : IntKind.u8.wrap ((bitsN D.sa : Nat) : Int) = ((UInt8.ofNat (bitsN D.sa)).toNat : Int) := by rw [UInt8.toNat_ofNat', IntKind.wrap_u8]; omega
              generalize hU : UInt8.ofNat (bitsN D.sa) = U at *
              have hown : (wr.alloc (.cells #[.int .u8 (U.toNat : Int)] 5)).ownsRow wr.heap.size 5 1 (.slice (some ⟨wr.heap.size, 0, none⟩) 1 1) 1 (u8s [U]) := World.ownsRow_lit (base := wr.heap.size) (e := 5) (size := 1) wr #[.int .u8 (U.toNat : Int)] 1 (Nat.le_refl _) (by decide) rfl
              have hcv := own_str (P := Tryz.prog) 22 9 5 Tryz.underlying22 Tryz.underlying5 Tryz.underlying9 hown
              clear hown
              have HXb := Lib.hid (HX.out.to (dbox wr (.cells #[.int .u8 (U.toNat : Int)] 5)))
              have hXl : (⟨X.toArray⟩ : ByteArray) ++ ⟨[U].toArray⟩ = ⟨(payL D).toArray⟩ := by rw [bapp, H.out]
              have HXL := Lib.hid hXl
              clear hXl
              go_wp2_with fail
              rw [HXL.out]
              refine Calls.mono (HF.out _) ?_
              rintro e w5 ⟨rfl, hb⟩
              have HX := Lib.hid (HXb.out.to hb)
              clear hb
              go_wp2
              go_ret
              exact ⟨im_rs HFI.out, HX.out.bel⟩
end Go.Proofs.YtmpppfibeoghaaaGreatDoor
