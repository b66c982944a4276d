/- Sources: what is valid, what an offer, a take and a drop make of them, as plain functions; TaskOK, isTime, every with isTime, queueOK, count, bit. -/
import Derived.Test.YtgbnoaclklbjbaaDoorEvA
namespace Go.Proofs.YtgbnoaclklbjbaaDoor
open Go.ChangeShapes Go.WideShapes Go.ChangeAt Go.RowKit
set_option linter.unusedVariables false
def tkIn (n a b : Int) : Bool := decide (a ≤ n ∧ n ≤ b)
def tkB (z : TT) : Bool :=
  decide (1 ≤ z.p ∧ z.p ≤ 5000 ∧ 1 ≤ z.d ∧ z.d ≤ 5000 ∧ 0 ≤ z.r ∧ z.r ≤ 5 ∧ ((z.k = 1 ∧ z.i = 0 ∧ z.q = 1 ∧ z.d ≤ z.p) ∨ (z.k = 2 ∧ 0 ≤ z.i ∧ z.i ≤ 7 ∧ 1 ≤ z.q ∧ z.q ≤ 4)))
theorem tkB_q {z : TT} (h : tkB z = true) : 1 ≤ z.q ∧ z.q ≤ 4 ∧ 1 ≤ z.p ∧ z.p ≤ 5000 := by
  have := of_decide_eq_true h
  omega
theorem tkIn_any (n a b : Int) (w : World) : Calls Tryd.prog 32 #[.int .i64 n, .int .i64 a, .int .i64 b] w fun e w' => e = .returned (.bool (tkIn n a b)) ∧ w = w' := by
  by_cases h1 : a ≤ n <;> by_cases h2 : n ≤ b
  all_goals
    have H : Hid (tkIn n a b = _) := Lib.hid (show decide (a ≤ n ∧ n ≤ b) = _ by first | exact decide_eq_false (by omega) | exact decide_eq_true (by omega))
    go_enter Tryd.func32, Tryd.ntmps32
    go_wp2
    go_ret
    exact ⟨by rw [H.out]; rfl, rfl⟩
theorem tkIn_is {n a b : Int} {q : Bool} (h : tkIn n a b = q) (w : World) : Calls Tryd.prog 32 #[.int .i64 n, .int .i64 a, .int .i64 b] w fun e w' => e = .returned (.bool q) ∧ w = w' := h ▸ tkIn_any n a b w
def tkT (n : Int) : Bool := tkIn n 1 5000
theorem isTaskTime_any (n : Int) (w : World) : Calls Tryd.prog 46 #[.int .i64 n] w fun e w' => e = .returned (.bool (tkT n)) ∧ w = w' := by
  by_cases h1 : 1 ≤ n <;> by_cases h2 : n ≤ 5000
  all_goals
    have H : Hid (tkT n = _) := Lib.hid (show decide (1 ≤ n ∧ n ≤ 5000) = _ by first | exact decide_eq_false (by omega) | exact decide_eq_true (by omega))
    go_enter Tryd.func46, Tryd.ntmps46
    go_wp2
    go_ret
    exact ⟨by rw [H.out]; rfl, rfl⟩
set_option maxHeartbeats 2000000 in
theorem taskOK_any (z : TT) (w : World) : Calls Tryd.prog 35 #[tV z] w fun e w' => e = .returned (.bool (tkB z)) ∧ Below w.heap.size w w' := by
  obtain ⟨k, p, d, i, q, r⟩ := z
  have Hb := Lib.hid (dbox w (tO ⟨k, p, d, i, q, r⟩ 32))
  go_enter Tryd.func35, Tryd.ntmps35
  go_wp2_with (go_at_call 46; refine (isTaskTime_any _ _).mono ?_; rintro e w' ⟨rfl, rfl⟩)
  all_goals (go_ret; refine ⟨rb_eq ?_, dbox _ _⟩; clear Hb; unfold tkB; unfold tkT tkIn at *; rw [Bool.eq_iff_iff]; simp_all; try omega)
set_option maxHeartbeats 2000000 in
theorem specTaskOK_any (z : TT) (w : World) : Calls Tryd.prog 33 #[tV z] w fun e w' => e = .returned (.bool (tkB z)) ∧ Below w.heap.size w w' := by
  obtain ⟨k, p, d, i, q, r⟩ := z
  have Hb := Lib.hid (dbox w (tO ⟨k, p, d, i, q, r⟩ 32))
  go_enter Tryd.func33, Tryd.ntmps33
  go_wp2_with (go_at_call 32; refine (tkIn_any _ _ _ _).mono ?_; rintro e w' ⟨rfl, rfl⟩)
  all_goals (go_ret; refine ⟨rb_eq ?_, dbox _ _⟩; clear Hb; unfold tkB; unfold tkIn at *; rw [Bool.eq_iff_iff]; simp_all; try omega)
def timeB (n : Int) : Bool := tkIn n 0 2147483647
theorem timeB_in {n : Int} (h : timeB n = true) : 0 ≤ n ∧ n ≤ 2147483647 := of_decide_eq_true h
theorem isTime_any (n : Int) (w : World) : Calls Tryd.prog 36 #[.int .i64 n] w fun e w' => e = .returned (.bool (timeB n)) ∧ w = w' := by
  by_cases h1 : 0 ≤ n <;> by_cases h2 : n ≤ 2147483647
  all_goals
    have H : Hid (timeB n = _) := Lib.hid (show decide (0 ≤ n ∧ n ≤ 2147483647) = _ by first | exact decide_eq_false (by omega) | exact decide_eq_true (by omega))
    go_enter Tryd.func36, Tryd.ntmps36
    go_wp2
    go_ret
    exact ⟨by rw [H.out]; rfl, rfl⟩
theorem isTime_is {n : Int} {b : Bool} (h : timeB n = b) (w : World) : Calls Tryd.prog 36 #[.int .i64 n] w fun e w' => e = .returned (.bool b) ∧ w = w' := h ▸ isTime_any n w
theorem ev_no {α : Type} (p : α → Bool) (d : α) {l : List α} {j : Nat} (h : j < l.length) (g : p (l.getD j d) = false) : l.all p = false := by
  rw [List.all_eq_false]
  exact ⟨l.getD j d, by simp [List.getD, h], by rw [g]; simp⟩
theorem ev_yes {α : Type} (p : α → Bool) (d : α) {l : List α} (g : ∀ j, j < l.length → p (l.getD j d) = true) : l.all p = true := by
  rw [List.all_eq_true]
  intro z hz
  obtain ⟨j, hj, rfl⟩ := List.getElem_of_mem hz
  have := g j hj
  simpa [List.getD, hj] using this
theorem everyTime_any (l : List Int) (a : Option Addr) (c : Nat) (hm : l.length ≤ maxLen) (w : World) (hz : Lies w a (kC l)) :
    Calls Tryd.prog 37 #[.slice a l.length c, .func (.func 36) #[] #[]] w fun e w' => e = .returned (.bool (l.all timeB)) ∧ w = w' := by
  unfold maxLen at hm
  have HZ := Lib.hid hz
  have HKN := Lib.hid (fun j (h : j < l.length) (g : timeB (l.getD j 0) = false) => ev_no timeB 0 h g)
  have HKY := Lib.hid (fun h => ev_yes timeB 0 (l := l) h)
  clear hz
  generalize l.all timeB = R at *
  generalize hL : l.length = n at *
  have HL := Lib.hid hL
  clear hL
  go_enter Tryd.func37, Tryd.ntmps37
  go_wp2
  go_loop [9] (fun i => ∃ j : Nat, j ≤ n ∧ i = .int .i64 j ∧ Hid (∀ q, q < j → timeB (l.getD q 0) = true)) (fun i => n - (intOf i).toNat)
  case atStart => exact ⟨0, Nat.zero_le _, rfl, Lib.hid (by intro q hq; omega)⟩
  case round =>
    obtain ⟨j, hj, rfl, hr⟩ := hrel
    by_cases hlt : j < n
    · obtain ⟨b, o, rfl, hbl, hcs⟩ := HZ.out.open (by rw [kC_len, HL.out]; omega)
      have c0 := kind_at hcs (i := j) (by rw [HL.out]; exact hlt)
      clear hcs
      cases hk : timeB (l.getD j 0)
      · have HR := Lib.hid (HKN.out j hlt hk)
        have HC := Lib.hid hk
        clear hk
        generalize l.getD j 0 = z at *
        go_wp2_with (go_at_call 36; refine (isTime_is HC.out _).mono ?_; rintro e w' ⟨rfl, rfl⟩)
        go_ret
        exact ⟨by rw [HR.out]; rfl, rfl⟩
      · have HC := Lib.hid hk
        have HN : Hid (∀ q, q < j + 1 → timeB (l.getD q 0) = true) := Lib.hid (fun q hq => by
          by_cases e : q = j
          · rw [e]; exact HC.out
          · exact hr.out q (by omega))
        clear hk
        generalize l.getD j 0 = z at *
        go_wp2_with (go_at_call 36; refine (isTime_is HC.out _).mono ?_; rintro e w' ⟨rfl, rfl⟩)
        go_round
        case rel => exact ⟨j + 1, by omega, by go_num, HN⟩
        case measure => simp [intOf]; omega
    · obtain rfl : j = n := by omega
      have HR := Lib.hid (HKY.out hr.out)
      go_wp2
      go_ret
      exact ⟨by rw [HR.out]; rfl, rfl⟩
/-- The queue: what stood ahead, each place, all. -/
def prv (q : List Int) : Nat → Int
  | 0 => -1
  | i + 1 => q.getD i 0
def qAt (q : List Int) (l : Int) (i : Nat) : Bool := decide (prv q i < q.getD i 0 ∧ q.getD i 0 ≤ l)
def qB (q : List Int) (l : Int) : Bool := (List.range q.length).all (qAt q l)
theorem qB_no {q : List Int} {l : Int} {i : Nat} (h : i < q.length) (g : qAt q l i = false) : qB q l = false := by
  unfold qB
  rw [List.all_eq_false]
  exact ⟨i, List.mem_range.2 h, by rw [g]; simp⟩
theorem qB_yes {q : List Int} {l : Int} (g : ∀ i, i < q.length → qAt q l i = true) : qB q l = true := by
  unfold qB
  rw [List.all_eq_true]
  exact fun i hi => g i (List.mem_range.1 hi)
theorem qB_at {q : List Int} {l : Int} (h : qB q l = true) {i : Nat} (hi : i < q.length) : prv q i < q.getD i 0 ∧ q.getD i 0 ≤ l :=
  of_decide_eq_true (List.all_eq_true.1 h i (List.mem_range.2 hi))
theorem prv_ge {q : List Int} {l : Int} {i : Nat} (g : ∀ j, j < i → qAt q l j = true) : -1 ≤ prv q i := by
  induction i with
  | zero => exact Int.le_refl _
  | succ i ih =>
    have h1 := of_decide_eq_true (g i (by omega))
    have h2 := ih (fun j hj => g j (by omega))
    show -1 ≤ q.getD i 0
    omega
theorem queueOK_any (q : List Int) (l : Int) (b : Option Addr) (c : Nat) (hm : q.length ≤ maxLen) (w : World) (hz : Lies w b (kC q)) :
    Calls Tryd.prog 38 #[.slice b q.length c, .int .i64 l] w fun e w' => e = .returned (.bool (qB q l)) ∧ w = w' := by
  unfold maxLen at hm
  have HZ := Lib.hid hz
  have HKN := Lib.hid (fun i (h : i < q.length) (g : qAt q l i = false) => qB_no h g)
  have HKY := Lib.hid (fun h => qB_yes (q := q) (l := l) h)
  clear hz
  generalize qB q l = R at *
  generalize hL : q.length = n at *
  have HL := Lib.hid hL
  clear hL
  go_enter Tryd.func38, Tryd.ntmps38
  go_wp2
  go_loop [5, 10] (fun s i => ∃ j : Nat, j ≤ n ∧ i = .int .i64 j ∧ s = .int .i64 (prv q j) ∧ Hid (∀ k, k < j → qAt q l k = true)) (fun _ i => n - (intOf i).toNat)
  case atStart => exact ⟨0, Nat.zero_le _, rfl, rfl, Lib.hid (by intro q hq; omega)⟩
  case round =>
    obtain ⟨j, hj, rfl, rfl, hr⟩ := hrel
    by_cases hlt : j < n
    · obtain ⟨b, o, rfl, hbl, hcs⟩ := HZ.out.open (by rw [kC_len, HL.out]; omega)
      have c0 := kind_at hcs (i := j) (by rw [HL.out]; exact hlt)
      have HE : Hid (prv q (j + 1) = q.getD j 0) := Lib.hid rfl
      have HQ : Hid (qAt q l j = decide (prv q j < q.getD j 0 ∧ q.getD j 0 ≤ l)) := Lib.hid rfl
      clear hcs
      generalize q.getD j 0 = x at *
      generalize prv q j = y at *
      by_cases h1 : y < x
      · by_cases h2 : x ≤ l
        · have HN : Hid (∀ k, k < j + 1 → qAt q l k = true) := Lib.hid (fun k hk => by
            by_cases e : k = j
            · rw [e, HQ.out]; exact decide_eq_true ⟨h1, h2⟩
            · exact hr.out k (by omega))
          have g1 : ¬ x ≤ y := by omega
          have g2 : ¬ l < x := by omega
          go_wp2
          go_round
          case rel => exact ⟨j + 1, by omega, by go_num, by rw [HE.out], HN⟩
          case measure => simp [intOf]; omega
        · have HR := Lib.hid (HKN.out j hlt (by rw [HQ.out]; exact decide_eq_false (by omega)))
          have g1 : ¬ x ≤ y := by omega
          have g2 : l < x := by omega
          go_wp2
          go_ret
          exact ⟨by rw [HR.out]; rfl, rfl⟩
      · have HR := Lib.hid (HKN.out j hlt (by rw [HQ.out]; exact decide_eq_false (by omega)))
        have g1 : x ≤ y := by omega
        go_wp2
        go_ret
        exact ⟨by rw [HR.out]; rfl, rfl⟩
    · obtain rfl : j = n := by omega
      have HR := Lib.hid (HKY.out hr.out)
      go_wp2
      go_ret
      exact ⟨by rw [HR.out]; rfl, rfl⟩
/-- What is valid. -/
def lastB (n : Int) : Bool := decide (-1 ≤ n ∧ n ≤ 2147483647)
def cntB (x : ST) : Bool := [x.a, x.d, x.t, x.s, x.p].all timeB
def sOK (x : ST) (z : TT) : Bool := tkB z && (lastB x.l && (cntB x && (decide ((x.q.length : Int) ≤ z.q) && qB x.q x.l)))
structure SIn (x : ST) (z : TT) : Prop where
  tk : tkB z = true
  l : -1 ≤ x.l ∧ x.l ≤ 2147483647
  a : 0 ≤ x.a ∧ x.a ≤ 2147483647
  d : 0 ≤ x.d ∧ x.d ≤ 2147483647
  t : 0 ≤ x.t ∧ x.t ≤ 2147483647
  s : 0 ≤ x.s ∧ x.s ≤ 2147483647
  p : 0 ≤ x.p ∧ x.p ≤ 2147483647
  n : (x.q.length : Int) ≤ z.q
  q : qB x.q x.l = true
theorem sOK_in {x : ST} {z : TT} (h : sOK x z = true) : SIn x z := by
  unfold sOK lastB cntB at h
  simp only [Bool.and_eq_true, decide_eq_true_eq, List.all_cons, List.all_nil, Bool.and_true] at h
  obtain ⟨h1, h2, ⟨h3, h4, h5, h6, h7⟩, h8, h9⟩ := h
  exact ⟨h1, h2, timeB_in h3, timeB_in h4, timeB_in h5, timeB_in h6, timeB_in h7, h8, h9⟩
end Go.Proofs.YtgbnoaclklbjbaaDoor
