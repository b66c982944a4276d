/- Function blocks: the table of kinds, which blocks are valid, what each takes. -/
import Derived.Test.YtppgknjpbfopjaaGreatDoorRows
import Derived.WalkKit
import Derived.ProofKit
import Derived.OpenShut
import Derived.Handy
import Derived.Below
import Derived.Laws.OwnMore
import Derived.Laws.NewBlocks
import Derived.Lib.Hide
import Derived.Deep.QuietTactic
import Derived.BigQuiet
import Derived.Outline
import Derived.Test.YtppgknjpbfopjaaGreatDoorCardKit
import Derived.Test.YtppgknjpbfopjaaGreatDoorCame
namespace Go.Proofs.YtppgknjpbfopjaaGreatDoor
open Go.ChangeShapes Go.WideShapes Go.ChangeAt Go.RowKit
theorem fb_rs {a b : ByteArray} {c d : Int} (h : a = b) (g : c = d) : Ending.returned (.tuple #[.string a, .int .i64 c]) = .returned (.tuple #[.string b, .int .i64 d]) := by rw [h, g]
theorem fb_rb {a b : Bool} (h : a = b) : Ending.returned (.bool a) = .returned (.bool b) := by rw [h]
theorem fb_rii {a b c d : Int} (h : a = b) (g : c = d) : Ending.returned (.tuple #[.int .i64 a, .int .i64 c]) = .returned (.tuple #[.int .i64 b, .int .i64 d]) := by rw [h, g]
theorem fb_dn {B : Nat} {a w : World} (h : Below B a w) (q : Nat) : Below B a (w.drewN q) := ⟨h.os, h.tape, h.output, h.size, h.block⟩
/-- A row of a table: two words and two integers. -/
def rowD22 {H : Type} (r : ByteArray × ByteArray × Int × Int) : DataW H := .agg [.lit (.string r.1.data.toList), .lit (.string r.2.1.data.toList), .lit (.int .i64 r.2.2.1), .lit (.int .i64 r.2.2.2)]
theorem cells_of_rows22 {H : Type} {enc : TypeId × Value → H} {P : Program} {w : World} {base : Nat} {sp : Nat → Bool} {held : Bool} {fuel : Nat} {t e : TypeId} {n : Nat} {cs : List Value} {rows : List (ByteArray × ByteArray × Int × Int)} {p : List MemPlace} {f0 f1 f2 f3 : Field}
    (ht : P.underlying t = some (.array n e)) (he : P.underlying e = some (.struct #[f0, f1, f2, f3])) (hce : P.cellsOf e = 4)
    (h0 : P.underlying f0.type = some .string) (h1 : P.underlying f1.type = some .string) (h2 : P.underlying f2.type = some (.int .i64)) (h3 : P.underlying f3.type = some (.int .i64))
    (o : f0.offset = 0 ∧ f1.offset = 1 ∧ f2.offset = 2 ∧ f3.offset = 3) (c : P.cellsOf f0.type = 1 ∧ P.cellsOf f1.type = 1 ∧ P.cellsOf f2.type = 1 ∧ P.cellsOf f3.type = 1)
    (h : DataW.trod enc P w base sp held fuel t cs = some (.agg (rows.map rowD22), p)) (i : Nat) (r : ByteArray × ByteArray × Int × Int) (hr : rows[i]? = some r) :
    cs[i * 4]? = some (.string r.1) ∧ cs[i * 4 + 1]? = some (.string r.2.1) ∧ cs[i * 4 + 2]? = some (.int .i64 r.2.2.1) ∧ cs[i * 4 + 3]? = some (.int .i64 r.2.2.2) := by
  obtain ⟨xs, m, rfl, hx, hcl, hxl, hi⟩ := DataW.trod_array ht h
  have hxs : xs.map (·.1) = rows.map (rowD22 (H := H)) := by
    have := congrArg Prod.fst hx
    simpa using this.symm
  have hil : i < rows.length := (List.getElem?_eq_some_iff.1 hr).1
  have hln : rows.length = n := by
    have := congrArg List.length hxs
    simp at this
    omega
  have hw := hi i (by omega)
  rw [hce, List.getElem?_eq_getElem (by omega)] at hw
  have hy : (xs[i]'(by omega)).1 = rowD22 r := by
    have := congrArg (·[i]?) hxs
    simpa [List.getElem?_map, hr, List.getElem?_eq_getElem (show i < xs.length by omega)] using this
  obtain ⟨y0, y1, y2, y3, q, hyy, _, g0, g1, g2, g3⟩ := Joins.trod_struct4 he hw
  rw [hyy] at hy
  simp only [rowD22, DataW.agg.injEq, List.cons.injEq, and_true] at hy
  obtain ⟨a0, a1, a2, a3⟩ := hy
  rw [o.1, c.1] at g0
  rw [o.2.1, c.2.1] at g1
  rw [o.2.2.1, c.2.2.1] at g2
  rw [o.2.2.2, c.2.2.2] at g3
  obtain ⟨s, e0, rfl, _⟩ := DataW.trod_string h0 g0
  obtain ⟨s1, e1, rfl, _⟩ := DataW.trod_string h1 g1
  obtain ⟨n2, e2, rfl, _⟩ := DataW.trod_int h2 g2
  obtain ⟨n3, e3, rfl, _⟩ := DataW.trod_int h3 g3
  simp only [DataW.lit.injEq, Lit.string.injEq, Lit.int.injEq, true_and] at a0 a1 a2 a3
  obtain rfl := str_eq a0
  obtain rfl := str_eq a1
  subst a2 a3
  exact ⟨win_at (a := i * 4) (j := 0) (by omega) e0, win_at (a := i * 4) (j := 1) (by omega) e1, win_at (a := i * 4) (j := 2) (by omega) e2, win_at (a := i * 4) (j := 3) (by omega) e3⟩
theorem rows22_of_head {P : Program} {W : World} {name : String} {rows : List (ByteArray × ByteArray × Int × Int)} {rest : List (String × DataW Unit)} {g : Nat} {t e : TypeId} {n : Nat} {f0 f1 f2 f3 : Field}
    (hg : P.globalNamed name = some g) (hty : (P.globals[g]?).map (·.type) = some t) (ht : P.underlying t = some (.array n e)) (he : P.underlying e = some (.struct #[f0, f1, f2, f3])) (hce : P.cellsOf e = 4)
    (h0 : P.underlying f0.type = some .string) (h1 : P.underlying f1.type = some .string) (h2 : P.underlying f2.type = some (.int .i64)) (h3 : P.underlying f3.type = some (.int .i64))
    (o : f0.offset = 0 ∧ f1.offset = 1 ∧ f2.offset = 2 ∧ f3.offset = 3) (c : P.cellsOf f0.type = 1 ∧ P.cellsOf f1.type = 1 ∧ P.cellsOf f2.type = 1 ∧ P.cellsOf f3.type = 1)
    (h : laidMet P ((name, .agg (rows.map rowD22)) :: rest) W) (i : Nat) (r : ByteArray × ByteArray × Int × Int) (hr : rows[i]? = some r) :
    W.cell? ⟨g, i * 4, none⟩ = some (.string r.1) ∧ W.cell? ⟨g, i * 4 + 1, none⟩ = some (.string r.2.1) ∧ W.cell? ⟨g, i * 4 + 2, none⟩ = some (.int .i64 r.2.2.1) ∧ W.cell? ⟨g, i * 4 + 3, none⟩ = some (.int .i64 r.2.2.2) := by
  obtain ⟨ps, ⟨g', t', cs, fuel, p, q, hg', ht', hvar, hd, _, _⟩, _⟩ := h
  obtain rfl := Option.some.inj (hg.symm.trans hg')
  obtain rfl := Option.some.inj (hty.symm.trans ht')
  have := cells_of_rows22 ht he hce h0 h1 h2 h3 o c hd i r hr
  simp only [World.var?_cell hg hvar]
  simpa using this
def fbRows : List (ByteArray × ByteArray × Int × Int) := [(⟨#[]⟩, ⟨#[]⟩, 0, 0), (⟨#[116, 105, 109, 101, 114]⟩, ⟨#[98, 105]⟩, 2147483647, 2147483647), (⟨#[99, 111, 117, 110, 116, 101, 114]⟩, ⟨#[98, 98, 105]⟩, 0, 2147483647), (⟨#[101, 100, 103, 101]⟩, ⟨#[98]⟩, 0, 0), (⟨#[108, 97, 116, 99, 104]⟩, ⟨#[98, 98]⟩, 0, 0)]
/-- The table of the kinds, as it lies in memory. -/
def FbTab (w : World) : Prop := ∀ k r, fbRows[k]? = some r → w.cell? ⟨4, k * 4, none⟩ = some (.string r.1) ∧ w.cell? ⟨4, k * 4 + 1, none⟩ = some (.string r.2.1) ∧
  w.cell? ⟨4, k * 4 + 2, none⟩ = some (.int .i64 r.2.2.1) ∧ w.cell? ⟨4, k * 4 + 3, none⟩ = some (.int .i64 r.2.2.2)
theorem FbTab.lt {w : World} (h : FbTab w) : 4 < w.heap.size := by
  have hc := (h 0 _ rfl).1
  rcases Nat.lt_or_ge 4 w.heap.size with h' | h'
  · exact h'
  · simp [World.cell?, Array.getElem?_eq_none h'] at hc
theorem FbTab.below {B : Nat} {w w' : World} (h : FbTab w) (g : Below B w w') (hB : w.heap.size ≤ B) : FbTab w' := fun k r hk => by
  have hlt : 4 < B := Nat.lt_of_lt_of_le h.lt hB
  obtain ⟨c0, c1, c2, c3⟩ := h k r hk
  exact ⟨(g.cell (p := ⟨4, k * 4, none⟩) hlt).trans c0, (g.cell (p := ⟨4, k * 4 + 1, none⟩) hlt).trans c1,
    (g.cell (p := ⟨4, k * 4 + 2, none⟩) hlt).trans c2, (g.cell (p := ⟨4, k * 4 + 3, none⟩) hlt).trans c3⟩
theorem gFb : Tryz.prog.globalNamed "loop.example/g00684/impl.fbKinds" = some 4 := by kernel_rfl
theorem tFb : (Tryz.prog.globals[4]?).map (·.type) = some 288 := by kernel_rfl
theorem cFbK : Tryz.prog.cellsOf 287 = 4 := by kernel_rfl
theorem cFbS : Tryz.prog.cellsOf 9 = 1 := by kernel_rfl
theorem cFbI : Tryz.prog.cellsOf 3 = 1 := by kernel_rfl
theorem cFbB : Tryz.prog.cellsOf 4 = 1 := by kernel_rfl
/-- What the row's list gives: the table lies as its rows. -/
theorem fbTab_of {W : World} (h : laidMetH Tryz.prog [("loop.example/g00684/impl.fbKinds", Rows.laid_loop_example_g00684_impl_fbKinds)] W) : FbTab W := by
  have h' : laidMet Tryz.prog (("loop.example/g00684/impl.fbKinds", .agg (fbRows.map rowD22)) :: []) W := h
  intro k r hk
  exact rows22_of_head gFb tFb Tryz.underlying288 Tryz.underlying287 cFbK Tryz.underlying9 Tryz.underlying9 Tryz.underlying3 Tryz.underlying3 ⟨rfl, rfl, rfl, rfl⟩ ⟨cFbS, cFbS, cFbI, cFbI⟩ h' k r hk
def kindB (n : Int) : Bool := decide (1 ≤ n ∧ n ≤ 4)
theorem kindB_yes {n : Int} (h : kindB n = true) : n = 1 ∨ n = 2 ∨ n = 3 ∨ n = 4 := by have := of_decide_eq_true h; omega
def fbIn (n a b : Int) : Bool := decide (a ≤ n ∧ n ≤ b)
theorem isKind_any (n : Int) (w : World) : Calls Tryz.prog 133 #[.int .i64 n] w fun e w' => e = .returned (.bool (kindB n)) ∧ w = w' := by
  go_enter Tryz.func133, Tryz.ntmps133
  go_wp2
  all_goals (go_ret; refine ⟨fb_rb ?_, rfl⟩; simp only [kindB]; rw [Bool.eq_iff_iff]; first | (simp; omega) | (simp; done))
theorem isKind_is {n : Int} {b : Bool} (h : kindB n = b) (w : World) : Calls Tryz.prog 133 #[.int .i64 n] w fun e w' => e = .returned (.bool b) ∧ w = w' := h ▸ isKind_any n w
theorem l03Kind_any (n : Int) (w : World) : Calls Tryz.prog 163 #[.int .i64 n] w fun e w' => e = .returned (.bool (kindB n)) ∧ w = w' := by
  have h : Calls Tryz.prog 166 #[.int .i64 n, .int .i64 1, .int .i64 4] w fun e w' => e = .returned (.bool (kindB n)) ∧ w = w' := by
    go_enter Tryz.func166, Tryz.ntmps166
    go_wp2
    all_goals (go_ret; refine ⟨fb_rb ?_, rfl⟩; simp only [kindB]; rw [Bool.eq_iff_iff]; first | (simp; omega) | (simp; done))
  go_enter Tryz.func163, Tryz.ntmps163
  go_wp2_with (go_at_call 166; refine h.mono ?_; rintro e w' ⟨rfl, rfl⟩)
  go_ret
  exact ⟨rfl, rfl⟩
theorem l03Kind_is {n : Int} {b : Bool} (h : kindB n = b) (w : World) : Calls Tryz.prog 163 #[.int .i64 n] w fun e w' => e = .returned (.bool b) ∧ w = w' := h ▸ l03Kind_any n w
theorem fbIn_any (n a b : Int) (w : World) : Calls Tryz.prog 166 #[.int .i64 n, .int .i64 a, .int .i64 b] w fun e w' => e = .returned (.bool (fbIn n a b)) ∧ w = w' := by
  go_enter Tryz.func166, Tryz.ntmps166
  go_wp2
  all_goals (go_ret; refine ⟨fb_rb ?_, rfl⟩; simp only [fbIn]; rw [Bool.eq_iff_iff]; first | (simp; omega) | (simp; done))
theorem isTime_any (n : Int) (w : World) : Calls Tryz.prog 191 #[.int .i64 n] w fun e w' => e = .returned (.bool (fbIn n 0 2147483647)) ∧ w = w' := by
  go_enter Tryz.func191, Tryz.ntmps191
  go_wp2
  all_goals (go_ret; refine ⟨fb_rb ?_, rfl⟩; simp only [fbIn]; rw [Bool.eq_iff_iff]; first | (simp; omega) | (simp; done))
/-- What a kind takes. -/
def takesF (n : Int) : ByteArray := if kindB n = true then (fbRows.getD n.toNat (⟨#[]⟩, ⟨#[]⟩, 0, 0)).2.1 else ⟨#[]⟩
def takesC (n : Int) : Int := if kindB n = true then 0 else 10
theorem takesOf_any (n : Int) (w : World) (ht : FbTab w) : Calls Tryz.prog 242 #[.int .i64 n] w fun e w' => e = .returned (.tuple #[.string (takesF n), .int .i64 (takesC n)]) ∧ w = w' := by
  cases ho : kindB n
  · have H : Hid (takesF n = ⟨#[]⟩ ∧ takesC n = 10) := Lib.hid (by unfold takesF takesC; rw [ho]; exact ⟨rfl, rfl⟩)
    have Ho := Lib.hid ho
    clear ho ht
    go_enter Tryz.func242, Tryz.ntmps242
    go_wp2_with (go_at_call 133; refine (isKind_is Ho.out _).mono ?_; rintro e w' ⟨rfl, rfl⟩)
    go_ret2
    exact ⟨fb_rs (by rw [H.out.1]) (by rw [H.out.2]), rfl⟩
  · have Ho := Lib.hid ho
    have Ht := Lib.hid ht
    clear ht
    rcases kindB_yes ho with rfl | rfl | rfl | rfl
    · have hc := (Ht.out 1 _ rfl).2.1
      clear ho
      go_enter Tryz.func242, Tryz.ntmps242
      go_wp2_with (go_at_call 133; refine (isKind_is Ho.out _).mono ?_; rintro e w' ⟨rfl, rfl⟩)
      go_ret2
      exact ⟨rfl, rfl⟩
    · have hc := (Ht.out 2 _ rfl).2.1
      clear ho
      go_enter Tryz.func242, Tryz.ntmps242
      go_wp2_with (go_at_call 133; refine (isKind_is Ho.out _).mono ?_; rintro e w' ⟨rfl, rfl⟩)
      go_ret2
      exact ⟨rfl, rfl⟩
    · have hc := (Ht.out 3 _ rfl).2.1
      clear ho
      go_enter Tryz.func242, Tryz.ntmps242
      go_wp2_with (go_at_call 133; refine (isKind_is Ho.out _).mono ?_; rintro e w' ⟨rfl, rfl⟩)
      go_ret2
      exact ⟨rfl, rfl⟩
    · have hc := (Ht.out 4 _ rfl).2.1
      clear ho
      go_enter Tryz.func242, Tryz.ntmps242
      go_wp2_with (go_at_call 133; refine (isKind_is Ho.out _).mono ?_; rintro e w' ⟨rfl, rfl⟩)
      go_ret2
      exact ⟨rfl, rfl⟩
#print axioms takesOf_any
end Go.Proofs.YtppgknjpbfopjaaGreatDoor
