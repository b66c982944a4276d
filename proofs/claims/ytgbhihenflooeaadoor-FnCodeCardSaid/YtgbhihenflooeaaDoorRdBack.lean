/- Code is read back from its bytes; cut within an instruction, or with an unknown operation behind it, it is none: plain facts. -/
import Derived.Test.YtgbhihenflooeaaDoorRound
import Derived.Test.YtgbhihenflooeaaDoorRdCode
namespace Go.Proofs.YtgbhihenflooeaaDoor
open Go.RowKit Go.PlainAid Go.WideShapes
theorem insB_pos (z : Int × Int) : 1 ≤ (insB z).length := by unfold insB; rw [List.length_append, putTo_len]; omega
theorem insB_size {k : Nat} (a : Int) : (insB ((k : Int), a)).length = if opHas k = true then 5 else 1 := by
  rw [insB_k, List.length_append, putTo_len]
  split
  · rw [putTo_len]
  · rfl
theorem bt_cat (x y : List UInt8) (i : Nat) : bt ⟨(x ++ y).toArray⟩ (x.length + i) = bt ⟨y.toArray⟩ i := by
  rw [bt_list, bt_list, getD_right _ _ _ _ (by omega), Nat.add_sub_cancel_left]
theorem bt_first {k : Nat} (h : k ≤ 26) (a : Int) (y : List UInt8) : bt ⟨(insB ((k : Int), a) ++ y).toArray⟩ 0 = (k : Int) := by
  rw [bt_list, insB_k, List.append_assoc, getD_left _ _ _ _ (by rw [putTo_len]; omega), putTo_get _ _ _ (by omega), bytN_nat]
  simp
  omega
theorem take_back (x y : List UInt8) (k : Nat) (a : Int) (ha : -2147483648 ≤ a ∧ a ≤ 2147483647) (hh : opHas k = true) : takeF ⟨(x ++ (insB ((k : Int), a) ++ y)).toArray⟩ (x.length + 1) 4 = a := by
  have hf : fitsN a 4 = true := decide_eq_true (Or.inr (Or.inr ⟨rfl, ha.1, ha.2⟩))
  have := take_put ⟨(x ++ putTo (k : Int) 1).toArray⟩ ⟨y.toArray⟩ hf
  rw [putS_yes hf, bapp, bapp] at this
  have e : ((⟨(x ++ putTo (k : Int) 1).toArray⟩ : ByteArray)).size = x.length + 1 := by
    show (x ++ putTo (k : Int) 1).toArray.size = _
    simp [putTo_len]
  rw [e] at this
  rw [insB_k, if_pos hh, show x ++ (putTo (k : Int) 1 ++ putTo a 4 ++ y) = x ++ putTo (k : Int) 1 ++ putTo a (4 : Int).toNat ++ y by simp]
  exact this
theorem size_mk (l : List UInt8) : (⟨l.toArray⟩ : ByteArray).size = l.length := by show l.toArray.size = _; simp
theorem bt_at (x y : List UInt8) : bt ⟨(x ++ y).toArray⟩ x.length = bt ⟨y.toArray⟩ 0 := by simpa using bt_cat x y 0
/-- A valid instruction in the midst of a text. -/
theorem takeX_back (x y : List UInt8) (z : Int × Int) (h : okB z.1 z.2 = true) : takeX ⟨(x ++ (insB z ++ y)).toArray⟩ x.length = (z, (insB z).length, 0) := by
  obtain ⟨n, a⟩ := z
  obtain ⟨k, rfl, h1, h2, h3, h4⟩ := okB_nat h
  have hb : bt ⟨(x ++ (insB ((k : Int), a) ++ y)).toArray⟩ x.length = (k : Int) := by rw [bt_at, bt_first h2]
  have ho : opB (bt ⟨(x ++ (insB ((k : Int), a) ++ y)).toArray⟩ x.length) = true := by rw [hb]; exact opB_in h1 h2
  have hl := insB_size (k := k) a
  cases hh : opHas k
  · rw [takeX_bare ho (by rw [hb]; exact hh), hl, hh, hb]
    have ha : a = 0 := by
      have : opHi k ≤ 0 := by unfold opHas at hh; have := of_decide_eq_false hh; omega
      have h0 := op_cases (p := fun k => opHi k ≤ 0 → opLo k = 0) (by decide) (show k < 27 by omega) this
      omega
    subst ha
    rfl
  · have hs : ¬ (⟨(x ++ (insB ((k : Int), a) ++ y)).toArray⟩ : ByteArray).size < x.length + 5 := by
      rw [size_mk, List.length_append, List.length_append, hl, if_pos hh]
      omega
    have ht := take_back x y k a (by have := opLo_ge k; have := opHi_le k; omega) hh
    rw [takeX_ok ho (by rw [hb]; exact hh) hs (by rw [ht, hb]; exact h), ht, hl, if_pos hh, hb]
/-- Reading on over a list of valid instructions. -/
theorem goR_back (zs : List (Int × Int)) : ∀ (f : Nat) (pre : List (Int × Int)) (y : List UInt8), okAll zs = true → pre.length + zs.length ≤ 40 →
    goR ⟨(codeL pre ++ (codeL zs ++ y)).toArray⟩ (f + zs.length) (codeL pre).length pre = goR ⟨(codeL pre ++ (codeL zs ++ y)).toArray⟩ f (codeL (pre ++ zs)).length (pre ++ zs) := by
  induction zs with
  | nil => intro f pre y _ _; simp
  | cons z t ih =>
    intro f pre y hok hlen
    have hz : okB z.1 z.2 = true ∧ okAll t = true := by
      unfold okAll at *
      simpa [List.all_cons] using hok
    have e1 : codeL (z :: t) ++ y = insB z ++ (codeL t ++ y) := by simp [codeL]
    have hx := takeX_back (codeL pre) (codeL t ++ y) z hz.1
    have e2 : codeL (pre ++ [z]) ++ (codeL t ++ y) = codeL pre ++ (insB z ++ (codeL t ++ y)) := by rw [codeL_snoc]; simp
    have hi := ih f (pre ++ [z]) y hz.2 (by simp at hlen ⊢; omega)
    rw [e2] at hi
    rw [e1, List.length_cons, show f + (t.length + 1) = (f + t.length) + 1 by omega, goR, if_pos (by rw [size_mk, List.length_append, List.length_append]; have := insB_pos z; omega), hx, if_neg (by simp), if_neg (by simp at hlen; omega)]
    have e3 : (codeL pre).length + (insB z).length = (codeL (pre ++ [z])).length := by rw [codeL_snoc, List.length_append]
    simp only [e3]
    rw [hi]
    simp
theorem codeL_ge (zs : List (Int × Int)) : zs.length ≤ (codeL zs).length := by
  induction zs with
  | nil => simp
  | cons z t ih =>
    have e : codeL (z :: t) = insB z ++ codeL t := by simp [codeL]
    have := insB_pos z
    rw [e, List.length_append, List.length_cons]
    omega
theorem readF_split (zs : List (Int × Int)) (y : List UInt8) (hok : okAll zs = true) (hl : zs.length ≤ 40) (hy : y.length ≤ 100) :
    readF ⟨(codeL zs ++ y).toArray⟩ = goR ⟨(codeL zs ++ y).toArray⟩ ((codeL zs ++ y).length - zs.length) (codeL zs).length zs := by
  have h5 := codeL_len zs
  have hg := codeL_ge zs
  unfold readF
  rw [if_neg (by rw [size_mk, List.length_append]; omega), size_mk]
  have := goR_back zs ((codeL zs ++ y).length - zs.length) [] y hok (by simpa using hl)
  have e : (codeL zs ++ y).length - zs.length + zs.length = (codeL zs ++ y).length := by rw [List.length_append]; omega
  rw [e] at this
  simpa [codeL] using this
theorem readF_code (zs : List (Int × Int)) (hok : okAll zs = true) (hl : zs.length ≤ 40) : readF ⟨(codeL zs).toArray⟩ = (zs, 0) := by
  have := readF_split zs [] hok hl (by simp)
  rw [List.append_nil] at this
  rw [this, goR_end (by rw [size_mk]; omega)]
theorem readF_tail (zs : List (Int × Int)) (y : List UInt8) (c : Int) (hok : okAll zs = true) (hl : zs.length ≤ 40) (hy : 1 ≤ y.length ∧ y.length ≤ 100) (hc : c ≠ 0) {x : Int × Int} {m : Nat} (hx : takeX ⟨(codeL zs ++ y).toArray⟩ (codeL zs).length = (x, m, c)) :
    readF ⟨(codeL zs ++ y).toArray⟩ = ([], c) := by
  have hg := codeL_ge zs
  rw [readF_split zs y hok hl hy.2, List.length_append, show (codeL zs).length + y.length - zs.length = ((codeL zs).length + y.length - zs.length - 1) + 1 by omega, goR, if_pos (by rw [size_mk, List.length_append]; omega), hx, if_pos hc]
theorem readF_cut (zs : List (Int × Int)) (hok : okAll zs = true) (hl : zs.length ≤ 40) : readF ⟨(codeL zs ++ [1, 0]).toArray⟩ = ([], 16) :=
  readF_tail zs [1, 0] 16 hok hl (by decide) (by decide) (takeX_end (by rw [bt_at]; decide) (by rw [bt_at]; decide) (by rw [size_mk, List.length_append]; simp))
theorem readF_bad (zs : List (Int × Int)) (hok : okAll zs = true) (hl : zs.length ≤ 40) : readF ⟨(codeL zs ++ [27]).toArray⟩ = ([], 11) :=
  readF_tail zs [27] 11 hok hl (by decide) (by decide) (takeX_op (by rw [bt_at]; decide))
end Go.Proofs.YtgbhihenflooeaaDoor
