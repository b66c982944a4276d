/- A frame's place: before an instruction of its code, or behind the call of the next frame's routine. -/
import Derived.Test.YtnehaidkhpjpbaaDoorCnt
import Derived.Test.YtnehaidkhpjpbaaDoorUnf
namespace Go.Proofs.YtnehaidkhpjpbaaDoor
open Go.ChangeShapes Go.WideShapes Go.ChangeAt Go.RowKit
set_option linter.unusedVariables false
theorem eqIns2 (a b c d : Int) (w : World) : (Op.equalIn 10000 77 (.agg #[.int .i64 a, .int .i64 b]) (.agg #[.int .i64 c, .int .i64 d])).run Tryd.prog w = .ok (decide (a = c ∧ b = d)) w := by
  have u3 := Tryd.underlying3
  have a3 := Tryd.isAgg3
  have z3 := Tryd.sizeOf3
  have hS : Tryd.prog.underlying 77 = some (.struct (Tryd.prog.fieldsOf 77)) := by kernel_rfl
  have hp : Tryd.prog.stoodInHeld 77 = false := by kernel_rfl
  rw [show (10000 : Nat) = 9999 + 1 from rfl, run_equalIn_agg w 9999 77 _ _ hS hp]
  simp only [Program.fieldsOf, Tryd.underlying77]
  go_simp
  by_cases h1 : a = c <;> by_cases h2 : b = d <;> simp [h1, h2]
theorem eqIns2_is {a b c d : Int} {q : Bool} (h : decide (a = c ∧ b = d) = q) (w : World) : (Op.equalIn 10000 77 (.agg #[.int .i64 a, .int .i64 b]) (.agg #[.int .i64 c, .int .i64 d])).run Tryd.prog w = .ok q w := h ▸ eqIns2 a b c d w
/-- A frame's place in its code; nx: the next frame's routine. -/
def plB (ls : List (List Ins)) (r p : Int) (nx : Option Int) : Bool :=
  decide (0 ≤ r ∧ r < ls.length) && match nx with
    | none => decide (0 ≤ p ∧ p < codeLen ls r)
    | some s => decide (0 < p ∧ p ≤ codeLen ls r) && decide (((ls.getD r.toNat []).getD (p - 1).toNat (0, 0)).1 = 26 ∧ ((ls.getD r.toNat []).getD (p - 1).toNat (0, 0)).2 = s)
theorem plB_out {ls : List (List Ins)} {r p : Int} {nx : Option Int} (h : ¬ (0 ≤ r ∧ r < ls.length)) : plB ls r p nx = false := by unfold plB; rw [decide_eq_false h]; rfl
theorem plB_last {ls : List (List Ins)} {q : Nat} {p : Int} (h : q < ls.length) : plB ls q p none = decide (0 ≤ p ∧ p < ((ls.getD q []).length : Int)) := by
  unfold plB codeLen; rw [decide_eq_true (by omega), Bool.true_and, Int.toNat_natCast]
theorem plB_next {ls : List (List Ins)} {q : Nat} {p s : Int} (h : q < ls.length) : plB ls q p (some s) = (decide (0 < p ∧ p ≤ ((ls.getD q []).length : Int)) && decide (((ls.getD q []).getD (p - 1).toNat (0, 0)).1 = 26 ∧ ((ls.getD q []).getD (p - 1).toNat (0, 0)).2 = s)) := by
  unfold plB codeLen; rw [decide_eq_true (by omega), Bool.true_and]; simp only [Int.toNat_natCast]
structure FrAt (w : World) (g o : Nat) (r p : Int) (x : Option Addr) (l c : Nat) : Prop where
  c0 : w.cell? ⟨g, o, none⟩ = some (.int .i64 r)
  c1 : w.cell? ⟨g, o + 1, none⟩ = some (.int .i64 p)
  c2 : w.cell? ⟨g, o + 2, none⟩ = some (.slice x l c)
set_option maxRecDepth 100000 in
set_option maxHeartbeats 4000000 in
theorem inPlace_any (ls : List (List Ins)) (b : Option Addr) (bc g o n c : Nat) (r p : Int) (x : Option Addr) (l xc : Nat) (nx : Option Int) (hm : ls.length ≤ 6) (hl : ∀ j, j < ls.length → (ls.getD j []).length ≤ 40) (hn : n ≤ 6) (hn1 : nx = none → n = 1) (hn2 : ∀ s, nx = some s → 2 ≤ n) (w : World) (hz : Routs w b ls) (hf : FrAt w g o r p x l xc) (hs : ∀ s, nx = some s → w.cell? ⟨g, o + 3, none⟩ = some (.int .i64 s)) :
    Calls Tryd.prog 119 #[.slice b ls.length bc, .slice (some ⟨g, o, none⟩) n c] w fun e w' => e = .returned (.bool (plB ls r p nx)) ∧ Below w.heap.size w w' := by
  have HA := Lib.hid (fun w (h : Routs w b ls) j (hj : j < ls.length) => h.at hj)
  have HZ := Lib.hid hz
  have d0 := hf.c0
  have d1 := hf.c1
  have d2 := hf.c2
  have HB := Lib.hid (dbox w (.cells #[.int .i64 r, .int .i64 p, .slice x l xc] 149))
  have HK := Lib.hid (heap_alloc_new w (.cells #[.int .i64 r, .int .i64 p, .slice x l xc] 149))
  have hn0 : (0 : Int) < (n : Int) := by
    cases nx with
    | none => have := hn1 rfl; omega
    | some s => have := hn2 s rfl; omega
  by_cases hr : 0 ≤ r ∧ r < ls.length
  case neg =>
    have HR := Lib.hid (@plB_out ls r p nx hr)
    clear hz hl hn1 hn2 hs hf
    generalize plB ls r p nx = R at *
    generalize ls.length = u at *
    by_cases h0 : r < 0
    · clear hr
      go_enter Tryd.func119, Tryd.ntmps119
      go_wp2
      go_ret
      exact ⟨rb_eq HR.out.symm, HB.out⟩
    · have h1 : (u : Int) ≤ r := by omega
      clear hr
      go_enter Tryd.func119, Tryd.ntmps119
      go_wp2
      go_ret
      exact ⟨rb_eq HR.out.symm, HB.out⟩
  obtain ⟨q, rfl⟩ : ∃ q : Nat, r = q := ⟨r.toNat, by omega⟩
  have hq : q < ls.length := by omega
  have hq0 : ¬ (q : Int) < 0 := by omega
  have hq1 : ¬ (ls.length : Int) ≤ (q : Int) := by omega
  have hq2 : (q : Int) < (ls.length : Int) := by omega
  obtain ⟨y2, o2, x2, z2, rfl, hb2, hc2, hz2⟩ := HA.out w HZ.out q hq
  have e0 := (HB.out.cell (p := ⟨y2, o2 + q, none⟩) hb2).trans hc2
  have hlq := hl q hq
  have k0 := cell_of_row _ w.heap.size 0 _ _ _ HK.out
  have k1 := cell_of_row _ w.heap.size 1 _ _ _ HK.out
  have HL2 := Lib.hid hz2
  clear hz2 hc2 hr hz hl
  cases nx with
  | none =>
    obtain rfl := hn1 rfl
    have HR := Lib.hid (@plB_last ls q p hq)
    clear hn1 hn2 hs hf hq
    generalize plB ls (q : Int) p none = R at *
    generalize (ls.getD q []).length = m at *
    generalize ls.length = u at *
    by_cases h1 : 0 ≤ p
    case neg =>
      have HR2 : Hid (R = false) := Lib.hid (by rw [HR.out, decide_eq_false (by omega)])
      go_enter Tryd.func119, Tryd.ntmps119
      go_wp2
      go_ret
      exact ⟨rb_eq HR2.out.symm, HB.out⟩
    by_cases h2 : p < m
    case neg =>
      have HR2 : Hid (R = false) := Lib.hid (by rw [HR.out, decide_eq_false (by omega)])
      go_enter Tryd.func119, Tryd.ntmps119
      go_wp2
      go_ret
      exact ⟨rb_eq HR2.out.symm, HB.out⟩
    have HR2 : Hid (R = true) := Lib.hid (by rw [HR.out, decide_eq_true ⟨h1, h2⟩])
    go_enter Tryd.func119, Tryd.ntmps119
    go_wp2
    go_ret
    exact ⟨rb_eq HR2.out.symm, HB.out⟩
  | some s =>
    have hn3 := hn2 s rfl
    have d3 := hs s rfl
    have HR := Lib.hid (@plB_next ls q p s hq)
    have HG := Lib.hid (fun (j : Nat) (h : j < (ls.getD q []).length) => (HL2.out.open (by rw [flat_len insC_len]; omega)).imp fun b1 h1 => h1.imp fun o1 h2 => And.intro h2.1 (And.intro h2.2.1 (ins_at h2.2.2 (i := j) h)))
    clear hn1 hn2 hs hf hq
    generalize plB ls (q : Int) p (some s) = R at *
    generalize ls.getD q [] = zs at *
    generalize hm2 : zs.length = m at *
    generalize ls.length = u at *
    have hne : ((n : Int) == 1) = false := by rw [beq_eq_false_iff_ne]; omega
    have hn1i : (1 : Int) < (n : Int) := by omega
    by_cases h1 : 0 < p
    case neg =>
      have HR2 : Hid (R = false) := Lib.hid (by rw [HR.out, decide_eq_false (by omega)]; rfl)
      have q1 : decide (0 < p) = false := decide_eq_false h1
      go_enter Tryd.func119, Tryd.ntmps119
      go_wp2
      go_quiet (fail)
      go_wp2
      go_ret
      exact ⟨rb_eq HR2.out.symm, bel_dn HB.out _⟩
    have q1 : decide (0 < p) = true := decide_eq_true h1
    by_cases h2 : p ≤ m
    case neg =>
      have HR2 : Hid (R = false) := Lib.hid (by rw [HR.out, decide_eq_false (by omega)]; rfl)
      have q2 : decide (p ≤ (m : Int)) = false := decide_eq_false h2
      go_enter Tryd.func119, Tryd.ntmps119
      go_wp2
      go_quiet (fail)
      go_wp2
      go_ret
      exact ⟨rb_eq HR2.out.symm, bel_dn HB.out _⟩
    have q2 : decide (p ≤ (m : Int)) = true := decide_eq_true h2
    obtain ⟨j, rfl⟩ : ∃ j : Nat, p = (j : Int) + 1 := ⟨(p - 1).toNat, by omega⟩
    have hj : j < m := by omega
    obtain ⟨b1, o1, rfl, hbl, i0, i1⟩ := HG.out j (by omega)
    have v0 := (HB.out.cell (p := ⟨b1, o1 + j * 2, none⟩) hbl).trans i0
    have v1 := (HB.out.cell (p := ⟨b1, o1 + j * 2 + 1, none⟩) hbl).trans i1
    have hg : g < w.heap.size := cells_lt d3
    have v2 := (HB.out.cell (p := ⟨g, o + 3, none⟩) hg).trans d3
    have hjp : ((j : Int) + 1 - 1).toNat = j := by omega
    have HR1 := HR.out
    rw [hjp] at HR1
    have HRR := Lib.hid HR1
    have hjm : (j : Int) < (m : Int) := by omega
    have hjw : (j : Int) + 1 - 1 = (j : Int) := by omega
    clear i0 i1 HG HR HR1 hjp
    generalize (zs.getD j (0, 0)).1 = a1 at *
    generalize (zs.getD j (0, 0)).2 = a2 at *
    by_cases h3 : a1 = 26 ∧ a2 = s
    · have heq := fun w => @eqIns2_is a1 a2 26 s true (decide_eq_true h3) w
      have HR2 : Hid (R = true) := Lib.hid (by rw [HRR.out, decide_eq_true (by omega), decide_eq_true h3]; rfl)
      clear h3
      go_enter Tryd.func119, Tryd.ntmps119
      go_wp2
      go_quiet (fail)
      go_wp2
      go_ret
      exact ⟨rb_eq HR2.out.symm, bel_dn HB.out _⟩
    · have heq := fun w => @eqIns2_is a1 a2 26 s false (decide_eq_false h3) w
      have HR2 : Hid (R = false) := Lib.hid (by rw [HRR.out, decide_eq_false h3]; simp)
      clear h3
      go_enter Tryd.func119, Tryd.ntmps119
      go_wp2
      go_quiet (fail)
      go_wp2
      go_ret
      exact ⟨rb_eq HR2.out.symm, bel_dn HB.out _⟩
end Go.Proofs.YtnehaidkhpjpbaaDoor
