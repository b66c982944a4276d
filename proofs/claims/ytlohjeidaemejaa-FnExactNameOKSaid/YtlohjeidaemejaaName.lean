/- impl.NameOK and spec.NameOK compute the same function. -/
import Derived.Test.YtlohjeidaemejaaRows
import Derived.WalkKit
import Derived.ProofKit
import Derived.OpenShut
import Derived.Handy
import Derived.PlainAid
import Derived.Lib.Hide
namespace Go.Proofs.Ytlohjeidaemejaa
open Go.ChangeShapes Go.WideShapes Go.ChangeAt Go.RowKit Go.PlainAid
def letB (c : Int) : Bool := decide ((97 ≤ c ∧ c ≤ 122) ∨ (65 ≤ c ∧ c ≤ 90) ∨ c = 95)
def digB (c : Int) : Bool := decide (48 ≤ c ∧ c ≤ 57)
theorem ret_b {a b : Bool} (h : a = b) : Ending.returned (.bool a) = .returned (.bool b) := by rw [h]
theorem isDigit_any (c : Int) (w : World) : Calls Try.prog 25 #[.int .u8 c] w fun e w' => e = .returned (.bool (digB c)) ∧ w = w' := by
  go_enter Try.func25, Try.ntmps25
  go_wp2
  all_goals (go_ret; refine ⟨ret_b ?_, rfl⟩; simp only [digB]; rw [Bool.eq_iff_iff]; first | (simp; omega) | (simp; done))
theorem isLetter_any (c : Int) (w : World) : Calls Try.prog 26 #[.int .u8 c] w fun e w' => e = .returned (.bool (letB c)) ∧ w = w' := by
  go_enter Try.func26, Try.ntmps26
  go_wp2
  all_goals (go_ret; refine ⟨ret_b ?_, rfl⟩; simp only [letB]; rw [Bool.eq_iff_iff]; first | (simp; omega) | (simp; done))
theorem l00Digit_any (c : Int) (w : World) : Calls Try.prog 38 #[.int .u8 c] w fun e w' => e = .returned (.bool (digB c)) ∧ w = w' := by
  go_enter Try.func38, Try.ntmps38
  go_wp2
  all_goals (go_ret; refine ⟨ret_b ?_, rfl⟩; simp only [digB]; rw [Bool.eq_iff_iff]; first | (simp; omega) | (simp; done))
theorem l00Letter_any (c : Int) (w : World) : Calls Try.prog 37 #[.int .u8 c] w fun e w' => e = .returned (.bool (letB c)) ∧ w = w' := by
  go_enter Try.func37, Try.ntmps37
  go_wp2
  all_goals (go_ret; refine ⟨ret_b ?_, rfl⟩; simp only [letB]; rw [Bool.eq_iff_iff]; first | (simp; omega) | (simp; done))
/-- Is s a name? -/
def nameB (s : ByteArray) : Bool := decide (1 ≤ s.size ∧ s.size ≤ 20 ∧ letB (bt s 0) = true ∧ ∀ k, k < s.size → (letB (bt s k) || digB (bt s k)) = true)
theorem nameB_len {s : ByteArray} (h : s.size < 1 ∨ 20 < s.size) : nameB s = false := decide_eq_false (by rintro ⟨a, b, _⟩; omega)
theorem nameB_head {s : ByteArray} (h : letB (bt s 0) = false) : nameB s = false := decide_eq_false (by rintro ⟨_, _, c, _⟩; simp [h] at c)
theorem nameB_dig {s : ByteArray} (h : digB (bt s 0) = true) : nameB s = false := nameB_head (by unfold letB digB at *; simp at *; omega)
theorem nameB_bad {s : ByteArray} {k : Nat} (hk : k < s.size) (h : letB (bt s k) = false) (g : digB (bt s k) = false) : nameB s = false :=
  decide_eq_false (by rintro ⟨_, _, _, d⟩; have := d k hk; simp [h, g] at this)
theorem nameB_yes {s : ByteArray} (h1 : 1 ≤ s.size) (h2 : s.size ≤ 20) (h : letB (bt s 0) = true ∨ digB (bt s 0) = false) (g : ∀ k, k < s.size → (letB (bt s k) || digB (bt s k)) = true) : nameB s = true :=
  decide_eq_true ⟨h1, h2, by have := g 0 (by omega); rcases h with h | h <;> simp_all, g⟩
theorem nameOK_any (s : ByteArray) (w : World) (hs : s.size ≤ maxLen) : Calls Try.prog 12 #[.string s] w fun e w' => e = .returned (.bool (nameB s)) ∧ w = w' := by
  unfold maxLen at hs
  have hg := get_bt s
  by_cases h1 : s.size < 1
  · have hn := Lib.hid (nameB_len (s := s) (by omega))
    have h0 : ((s.size : Int) == 0) = true := beq_iff_eq.2 (by omega)
    go_enter Try.func12, Try.ntmps12
    go_wp2
    go_ret
    exact ⟨ret_b (by rw [hn.out]), rfl⟩
  have h0 : ((s.size : Int) == 0) = false := beq_eq_false_iff_ne.2 (by omega)
  by_cases h2 : 20 < s.size
  · have hn := Lib.hid (nameB_len (s := s) (by omega))
    go_enter Try.func12, Try.ntmps12
    go_wp2
    go_ret
    exact ⟨ret_b (by rw [hn.out]), rfl⟩
  have h3 : 0 < s.size := by omega
  cases hd : digB (bt s 0)
  case true =>
    have hn := Lib.hid (nameB_dig hd)
    go_enter Try.func12, Try.ntmps12
    go_wp2_with first | (go_at_call 25; refine (isDigit_any _ _).mono ?_; rintro e w' ⟨rfl, rfl⟩)
    go_ret
    exact ⟨ret_b (by rw [hn.out]), rfl⟩
  case false =>
    go_enter Try.func12, Try.ntmps12
    go_wp2_with first | (go_at_call 25; refine (isDigit_any _ _).mono ?_; rintro e w' ⟨rfl, rfl⟩)
    have Hd := Lib.hid hd
    clear hd
    go_loop [19] (fun i => ∃ k : Nat, k ≤ s.size ∧ i = .int .i64 k ∧ Hid (∀ j, j < k → (letB (bt s j) || digB (bt s j)) = true)) (fun i => s.size - (intOf i).toNat)
    case atStart => exact ⟨0, Nat.zero_le _, rfl, Lib.hid (by intro j hj; omega)⟩
    case round =>
      obtain ⟨k, hk, rfl, hr⟩ := hrel
      by_cases hlt : k < s.size
      · cases hl : letB (bt s k) <;> cases hdk : digB (bt s k)
        case false.false =>
          have hn := Lib.hid (nameB_bad hlt hl hdk)
          go_wp2_with first | (go_at_call 25; refine (isDigit_any _ _).mono ?_; rintro e w' ⟨rfl, rfl⟩) | (go_at_call 26; refine (isLetter_any _ _).mono ?_; rintro e w' ⟨rfl, rfl⟩)
          go_ret
          exact ⟨ret_b (by rw [hn.out]), rfl⟩
        all_goals
          have hx : Hid (∀ j, j < k + 1 → (letB (bt s j) || digB (bt s j)) = true) := by
            refine Lib.hid ?_
            intro j hj
            by_cases e : j = k
            · subst e; simp [hl, hdk]
            · exact hr.out j (by omega)
          go_wp2_with first | (go_at_call 25; refine (isDigit_any _ _).mono ?_; rintro e w' ⟨rfl, rfl⟩) | (go_at_call 26; refine (isLetter_any _ _).mono ?_; rintro e w' ⟨rfl, rfl⟩)
          go_round
          case rel => exact ⟨k + 1, by omega, by go_num, hx⟩
          case measure => simp [intOf]; omega
      · have hn := Lib.hid (nameB_yes (s := s) (by omega) (by omega) (Or.inr Hd.out) (fun j hj => hr.out j (by omega)))
        go_wp2
        go_ret
        exact ⟨ret_b (by rw [hn.out]), rfl⟩
theorem l00Word_any (s : ByteArray) (w : World) (hs : s.size ≤ maxLen) : Calls Try.prog 24 #[.string s] w fun e w' => e = .returned (.bool (nameB s)) ∧ w = w' := by
  unfold maxLen at hs
  have hg := get_bt s
  by_cases h1 : s.size < 1
  · have hn := Lib.hid (nameB_len (s := s) (by omega))
    go_enter Try.func24, Try.ntmps24
    go_wp2
    go_ret
    exact ⟨ret_b (by rw [hn.out]), rfl⟩
  by_cases h2 : 20 < s.size
  · have hn := Lib.hid (nameB_len (s := s) (by omega))
    go_enter Try.func24, Try.ntmps24
    go_wp2
    go_ret
    exact ⟨ret_b (by rw [hn.out]), rfl⟩
  have h3 : 0 < s.size := by omega
  cases hd : letB (bt s 0)
  case false =>
    have hn := Lib.hid (nameB_head hd)
    go_enter Try.func24, Try.ntmps24
    go_wp2_with first | (go_at_call 37; refine (l00Letter_any _ _).mono ?_; rintro e w' ⟨rfl, rfl⟩)
    go_ret
    exact ⟨ret_b (by rw [hn.out]), rfl⟩
  case true =>
    go_enter Try.func24, Try.ntmps24
    go_wp2_with first | (go_at_call 37; refine (l00Letter_any _ _).mono ?_; rintro e w' ⟨rfl, rfl⟩)
    have Hd := Lib.hid hd
    clear hd
    go_loop [3] (fun i => ∃ k : Nat, k ≤ s.size ∧ i = .int .i64 k ∧ Hid (∀ j, j < k → (letB (bt s j) || digB (bt s j)) = true)) (fun i => s.size - (intOf i).toNat)
    case atStart =>
      refine ⟨1, by omega, rfl, Lib.hid ?_⟩
      intro j hj
      have e : j = 0 := by omega
      rw [e, Hd.out]
      rfl
    case round =>
      obtain ⟨k, hk, rfl, hr⟩ := hrel
      by_cases hlt : k < s.size
      · cases hl : letB (bt s k) <;> cases hdk : digB (bt s k)
        case false.false =>
          have hn := Lib.hid (nameB_bad hlt hl hdk)
          go_wp2_with first | (go_at_call 38; refine (l00Digit_any _ _).mono ?_; rintro e w' ⟨rfl, rfl⟩) | (go_at_call 37; refine (l00Letter_any _ _).mono ?_; rintro e w' ⟨rfl, rfl⟩)
          go_ret
          exact ⟨ret_b (by rw [hn.out]), rfl⟩
        all_goals
          have hx : Hid (∀ j, j < k + 1 → (letB (bt s j) || digB (bt s j)) = true) := by
            refine Lib.hid ?_
            intro j hj
            by_cases e : j = k
            · subst e; simp [hl, hdk]
            · exact hr.out j (by omega)
          go_wp2_with first | (go_at_call 38; refine (l00Digit_any _ _).mono ?_; rintro e w' ⟨rfl, rfl⟩) | (go_at_call 37; refine (l00Letter_any _ _).mono ?_; rintro e w' ⟨rfl, rfl⟩)
          go_round
          case rel => exact ⟨k + 1, by omega, by go_num, hx⟩
          case measure => simp [intOf]; omega
      · have hn := Lib.hid (nameB_yes (s := s) (by omega) (by omega) (Or.inl Hd.out) (fun j hj => hr.out j (by omega)))
        go_wp2
        go_ret
        exact ⟨ret_b (by rw [hn.out]), rfl⟩
theorem specNameOK_any (s : ByteArray) (w : World) (hs : s.size ≤ maxLen) : Calls Try.prog 11 #[.string s] w fun e w' => e = .returned (.bool (nameB s)) ∧ w = w' := by
  go_enter Try.func11, Try.ntmps11
  go_wp2_with (go_at_call 24; refine (l00Word_any _ _ hs).mono ?_; rintro e w' ⟨rfl, rfl⟩)
  go_ret
  exact ⟨rfl, rfl⟩
theorem FnExactNameOK_walk (a0 : ByteArray) (w0 : a0.size ≤ maxLen) (w : World) :
    Calls Try.prog 4 #[.string a0] w fun e w' => e = .returned (.bool true) ∧ Grown w w' := by
  have hb : (a0.size : Int) ≤ 9223372036854775807 := by unfold maxLen at w0; omega
  go_enter Try.func4, Try.ntmps4
  go_wp2_with first | (go_at_call 11; refine (specNameOK_any _ _ w0).mono ?_; rintro e w' ⟨rfl, rfl⟩) | (go_at_call 12; refine (nameOK_any _ _ w0).mono ?_; rintro e w' ⟨rfl, rfl⟩)
  all_goals (go_ret; exact ⟨rfl, Grown.refl _⟩)
end Go.Proofs.Ytlohjeidaemejaa
